/- 7 of this claim's texts, one behind the other. -/
import Derived.Test.YtecaeolgheefmaaPart4
import Derived.Test.YtecaeolgheefmaaPart5
import Derived.Deep.RegionHeld3
import Derived.Deep.DeepCutAuto
import Derived.Laws.ResultCell
import Derived.Deep.Onto
import Derived.Test.YtecaeolgheefmaaPart1
import Derived.Lib.Bytealg
/- The walks of the specification's l08Put and GrantPut. Written by spec8put.py. -/
namespace Go.Proofs.Ytecaeolgheefmaa
open Go.RowKit

theorem take_atG {L : List Gr} {k : Nat} (hk : k ≤ L.length) : ∀ j, j < (L.take k).length → atG (L.take k) j = atG L (0 + j) ∧ 0 + j < L.length := by
  intro j hj
  have hj2 : j < k := by rw [List.length_take] at hj; omega
  refine ⟨?_, by omega⟩
  rw [atG_get hj, Nat.zero_add, atG_get (by omega), List.getElem_take]
theorem drop_atG (L : List Gr) (k : Nat) : ∀ j, j < (L.drop k).length → atG (L.drop k) j = atG L (k + j) ∧ k + j < L.length := by
  intro j hj
  have hj2 : k + j < L.length := by rw [List.length_drop] at hj; omega
  refine ⟨?_, hj2⟩
  rw [atG_get hj, atG_get hj2, List.getElem_drop]
theorem own_putG {W : World} {B k : Nat} {v : Value} {L : List Gr} {x : Gr} (hk : k ≤ L.length) (h : W.ownsRow B 64 3 v (k + 1 + (L.length - k)) (grCells (L.take k) ++ (grVals x ++ grCells (L.drop k)))) : SliceG W B v (L.take k ++ x :: L.drop k) := by
  refine sliceG_of_own (t := 64) ?_
  rw [grCells_app, List.length_append, List.length_take, List.length_cons, List.length_drop, show min k L.length = k by omega, show k + (L.length - k + 1) = k + 1 + (L.length - k) by omega]
  exact h
set_option maxRecDepth 10000 in
theorem specMin8_any (a b : Int) (w : World) : Calls Try.prog 84 #[.int .i64 a, .int .i64 b] w fun e w' => e = .returned (.int .i64 (if a < b then a else b)) ∧ w' = w := by
  by_cases h : a < b
  · have q : decide (a < b) = true := by rw [decide_eq_true_iff]; exact h
    rw [if_pos h]
    go_enter Try.func84, Try.ntmps84
    go_wp2
    go_ret
    exact ⟨rfl, rfl⟩
  · have q : decide (a < b) = false := by rw [decide_eq_false_iff_not]; exact h
    rw [if_neg h]
    go_enter Try.func84, Try.ntmps84
    go_wp2
    go_ret
    exact ⟨rfl, rfl⟩
set_option maxRecDepth 10000 in
set_option maxHeartbeats 16000000 in
theorem specPutR_any (v : Value) (L : List Gr) (tp si : ByteArray) (now : Int) (B : Nat) (w : World) (hs : SliceG w B v L) (hg8 : grantsB L = true) (hnow : 0 ≤ now ∧ now ≤ 1000000) :
    Calls Try.prog 58 #[v, .string tp, .string si, .int .i64 now] w fun e w' => ∃ v', e = .returned v' ∧ AnsG w' w.heap.size v' (putR L tp si now) ∧ Below w.heap.size w w' := by
  have hL8 := (grantsB_parts hg8).1
  have hrl := restG_len L tp si now
  have KO : Hid (∀ W, Below w.heap.size w W → Calls Try.prog 64 #[v, .int .i64 now] W fun e w' => ∃ v', e = .returned v' ∧ SliceG w' W.heap.size v' (L.filter (liveG now)) ∧ Below W.heap.size W w') := fun W hb => specOld8_any v L now B W (hs.below hb) (by omega)
  have KD : Hid (∀ (u : Value) (B : Nat) (W : World), SliceG W B u (L.filter (liveG now)) → Calls Try.prog 62 #[u, .string tp, .string si] W fun e w' => ∃ v', e = .returned v' ∧ (SliceG w' W.heap.size v' (restG L tp si now) ∧ ∃ g m c, v' = .slice (some ⟨g, 0, none⟩) m c) ∧ Below W.heap.size W w') := fun u B W s => specDrop8_anyS u _ tp si B W s (by have := filter_len8 (liveG now) hg8; omega)
  have KMn : Hid (∀ W, Calls Try.prog 84 #[.int .i64 1000000, .int .i64 (now + 30)] W fun e w' => e = .returned (.int .i64 (untilG now)) ∧ w' = W) := fun W => by
    have e : untilG now = if 1000000 < now + 30 then 1000000 else now + 30 := by
      unfold untilG
      by_cases hc : now + 30 ≤ 1000000
      · rw [if_pos hc, if_neg (by omega)]
      · rw [if_neg hc, if_pos (by omega)]
    rw [e]
    exact specMin8_any 1000000 (now + 30) W
  have HRr : RiseG (restG L tp si now) := rise_filterG (rise_filterG (grants_rise hg8) _) _
  have HAp := rest_apart (L := L) (tp := tp) (si := si) (now := now) (un := untilG now)
  have HN9 : Hid (¬ (restG L tp si now).length < 8 → putR L tp si now = noG 9) := fun h => by unfold putR; rw [if_neg h]
  have HY : Hid ((restG L tp si now).length < 8 → putR L tp si now = ⟨insG (restG L tp si now) ⟨tp, si, untilG now⟩, false, 0⟩) := fun h => by unfold putR; rw [if_pos h]; rfl
  clear hs hg8
  generalize putR L tp si now = Z at *
  generalize L.filter (liveG now) = Y0 at *
  generalize restG L tp si now = Y at *
  generalize untilG now = un at *
  have HCut : Hid (∀ k, k ≤ Y.length → (∀ j, j < k → grLess (atG Y j) ⟨tp, si, un⟩ = true) → (k < Y.length → grLess (atG Y k) ⟨tp, si, un⟩ = false) → insG Y ⟨tp, si, un⟩ = Y.take k ++ ⟨tp, si, un⟩ :: Y.drop k) := fun k hk hb he => by
    refine ins_cut hk hb (fun j hj hjl => ?_)
    have hk2 : grLess ⟨tp, si, un⟩ (atG Y k) = true := by
      have hkl : k < Y.length := by omega
      rcases HAp (atG Y k) (by rw [atG_get hkl]; exact List.getElem_mem hkl) with h | h
      · rw [he hkl] at h; cases h
      · exact h
    by_cases e : j = k
    · subst e; exact hk2
    · exact grLess_trans hk2 (riseG_at HRr (by omega) hjl)
  clear HAp
  obtain ⟨i0, hi, hy0, hy1, hy2⟩ := info_parts infoGrant
  obtain ⟨W0, hW⟩ : ∃ W0, W0 = w.alloc (.cells #[.slice none 0 0, .bool false, .int .i64 0] 27) := ⟨_, rfl⟩
  have hW0 : Hid (W0 = w.alloc (.cells #[.slice none 0 0, .bool false, .int .i64 0] 27)) := hW
  have B0 : Hid (Below w.heap.size w W0) := by show Below _ _ _; rw [hW]; exact (Below.refl _ _).alloc (Nat.le_refl _) _
  have X0 : Hid (BoxG W0 w.heap.size) := by show BoxG _ _; rw [hW]; exact boxG_made w _
  have z0 : w.heap.size < W0.heap.size := by rw [hW]; simp
  clear hW
  go_enter Try.func58, Try.ntmps58
  go_upto_region 1 with fail
  rw [← hW0.out]
  clear hW0
  generalize hbb : w.heap.size = b at *
  go_wp2_with fail
  refine (KO.out _ B0.out).mono ?_
  rintro e w1 ⟨u1, rfl, hs1, hb1⟩
  have S1 : Hid (SliceG w1 W0.heap.size u1 Y0) := hs1
  have X1 : Hid (BoxG w1 b) := X0.out.below hb1
  have B1 : Hid (Below b w w1) := B0.out.trans (hb1.mono (by omega))
  have z1 : b < w1.heap.size := Nat.lt_of_lt_of_le z0 hb1.size
  clear hs1 hb1 X0 B0 KO
  go_wp2_with fail
  refine (KD.out _ _ _ S1.out).mono ?_
  rintro e w2 ⟨u2, rfl, ⟨hs2, g, mm, cap, rfl⟩, hb2⟩
  obtain ⟨⟨q, cap', e1, hg⟩, q2, cap2, e2, hcap, -⟩ := hs2
  injection e1 with e1a e1b e1c
  injection e2 with e2a _ e2c
  subst e1a e1b e1c e2a e2c
  have X2 : Hid (BoxG w2 b) := X1.out.below hb2
  have B2 : Hid (Below b w w2) := B1.out.trans (hb2.mono (by omega))
  have z2 : b < w2.heap.size := Nat.lt_of_lt_of_le z1 hb2.size
  have HG : Hid (0 < Y.length → g < w2.heap.size ∧ ∀ j, j < Y.length → ∀ o, o < 3 → w2.cell? ⟨g, j * 3 + o, none⟩ = some (grC (atG Y j) o)) := fun h0 => by
    obtain ⟨g', e, -, h1, h2⟩ := hg h0
    injection e with e
    injection e with e
    subst e
    exact ⟨h1, fun j hj o ho => (h2 j hj o ho).1⟩
  clear hg hb2 S1 X1 B1 KD HRr
  by_cases h8 : Y.length < 8
  case neg =>
    have HR : Hid (Z = noG 9) := HN9.out h8
    have q8 : decide ((8 : Int) ≤ (Y.length : Int)) = true := by rw [decide_eq_true_iff]; omega
    obtain ⟨x0, x1, x2, f0, f1, f2, hlt⟩ := X2.out
    go_wp2
    refine bodyPost_ret (v := .agg #[.slice none 0 0, .bool false, .int .i64 9]) (by simp [results, Try.results58, go_sem, x0, x1, x2]) rfl ⟨_, rfl, ⟨_, by rw [HR.out]; rfl, by rw [HR.out]; exact sliceG_none _ _⟩, by rw [hbb]; exact store3G_below B2.out⟩
  have HR : Hid (Z = ⟨insG Y ⟨tp, si, un⟩, false, 0⟩) := HY.out h8
  have q8 : decide ((8 : Int) ≤ (Y.length : Int)) = false := by rw [decide_eq_false_iff_not]; omega
  have hwr : IntKind.i64.wrap (now + 30) = now + 30 := by rw [IntKind.wrap_i64]; omega
  clear HN9 HY
  go_wp2_with fail
  refine (KMn.out _).mono ?_
  rintro e w3 ⟨rfl, rfl⟩
  obtain ⟨W4, hV⟩ : ∃ W4, W4 = w3.alloc (.cells #[.string tp, .string si, .int .i64 un] 64) := ⟨_, rfl⟩
  have hW4 : Hid (W4 = w3.alloc (.cells #[.string tp, .string si, .int .i64 un] 64)) := hV
  have A4 : Below w3.heap.size w3 W4 := by rw [hV]; exact (Below.refl _ _).alloc (Nat.le_refl _) _
  have X4 : Hid (BoxG W4 b) := X2.out.below A4
  have B4 : Hid (Below b w W4) := B2.out.trans (A4.mono (by omega))
  have u0 : W4.cell? ⟨w3.heap.size, 0, none⟩ = some (.string tp) := by rw [hV]; simp
  have u1 : W4.cell? ⟨w3.heap.size, 1, none⟩ = some (.string si) := by rw [hV]; simp
  have u2 : W4.cell? ⟨w3.heap.size, 2, none⟩ = some (.int .i64 un) := by rw [hV]; simp
  have U0 : Hid (W4.cell? ⟨w3.heap.size, 0, none⟩ = some (.string tp) ∧ W4.cell? ⟨w3.heap.size, 1, none⟩ = some (.string si) ∧ W4.cell? ⟨w3.heap.size, 2, none⟩ = some (.int .i64 un)) := ⟨u0, u1, u2⟩
  have hx0 : w3.heap.size < W4.heap.size := by rw [hV]; simp
  have HG4 : Hid (0 < Y.length → g < W4.heap.size ∧ ∀ j, j < Y.length → ∀ o, o < 3 → W4.cell? ⟨g, j * 3 + o, none⟩ = some (grC (atG Y j) o)) := fun h0 => by
    obtain ⟨h1, h2⟩ := HG.out h0
    exact ⟨Nat.lt_trans h1 hx0, fun j hj o ho => ((bcell A4).1 _ _ h1).trans (h2 j hj o ho)⟩
  have hbx : b < w3.heap.size := z2
  clear hV A4 X2 B2 u0 u1 u2 HG KMn
  go_upto_region 5 with fail
  rw [← hW4.out]
  clear hW4
  generalize hbxx : w3.heap.size = bx at *
  clear hbxx
  have HOP : Hid (∀ k (W : World) (B : Nat) (v : Value), k ≤ Y.length → W.ownsRow B 64 3 v (k + 1 + (Y.length - k)) (grCells (Y.take k) ++ (grVals ⟨tp, si, un⟩ ++ grCells (Y.drop k))) → insG Y ⟨tp, si, un⟩ = Y.take k ++ ⟨tp, si, un⟩ :: Y.drop k → SliceG W B v (insG Y ⟨tp, si, un⟩)) := fun k W B v hk h e => by rw [e]; exact own_putG hk h
  have KL : Hid (∀ j W, Calls Try.prog 68 #[.agg #[.string (atG Y j).tp, .string (atG Y j).si, .int .i64 (atG Y j).un], .agg #[.string tp, .string si, .int .i64 un]] W fun e w' => e = .returned (.bool (grLess (atG Y j) ⟨tp, si, un⟩)) ∧ Below W.heap.size W w') := fun j W => specLess8_any (atG Y j) ⟨tp, si, un⟩ W
  go_wp2
  go_loopw [11] (fun i wr => ∃ k : Nat, k ≤ Y.length ∧ i = .int .i64 k ∧ Hid (∀ j, j < k → grLess (atG Y j) ⟨tp, si, un⟩ = true) ∧ Hid (Below W4.heap.size W4 wr)) (fun i _ => Y.length - (intOf i).toNat)
  case atStart => exact ⟨0, Nat.zero_le _, rfl, fun j hj => absurd hj (by omega), Below.refl _ _⟩
  case round =>
    obtain ⟨k, hk, rfl, HM, HB⟩ := hrel
    have hxr : bx < wr.heap.size := Nat.lt_of_lt_of_le hx0 HB.out.size
    have xr0 : wr.cell? ⟨bx, 0, none⟩ = some (.string tp) := ((bcell HB.out).1 _ _ hx0).trans U0.out.1
    have xr1 : wr.cell? ⟨bx, 1, none⟩ = some (.string si) := ((bcell HB.out).1 _ _ hx0).trans U0.out.2.1
    have xr2 : wr.cell? ⟨bx, 2, none⟩ = some (.int .i64 un) := ((bcell HB.out).1 _ _ hx0).trans U0.out.2.2
    have BR : Hid (Below b w wr) := B4.out.trans (HB.out.mono (by omega))
    have hcW : ∀ W, Below W4.heap.size W4 W → ∀ j, j < Y.length → ∀ o, o < 3 → W.cell? ⟨g, j * 3 + o, none⟩ = some (grC (atG Y j) o) := fun W hb j hj o ho => by
      obtain ⟨h1, h2⟩ := HG4.out (by omega)
      exact ((bcell hb).1 _ _ h1).trans (h2 j hj o ho)
    have HC1a : Hid (∀ W, Below W4.heap.size W4 W → ∀ j u, (grCells (Y.take k))[j]? = some u → W.cell? ((⟨g, 0, none⟩ : Addr).add j) = some u) := fun W hb => by
      have := grCells_part (hcW W hb) 0 (Y.take k) (take_atG (by omega))
      simpa using this
    have HC2a : Hid (∀ W, Below W4.heap.size W4 W → ∀ j u, (grCells (Y.drop k))[j]? = some u → W.cell? ((⟨g, k * 3, none⟩ : Addr).add j) = some u) := fun W hb => grCells_part (hcW W hb) k (Y.drop k) (drop_atG Y k)
    have hl1 : (grCells (Y.take k)).length = k * 3 := by rw [grCells_len, List.length_take]; omega
    have hl2 : (grCells (Y.drop k)).length = (Y.length - k) * 3 := by rw [grCells_len, List.length_drop]
    have o1 : ∀ v ∈ grCells (Y.take k), v.oneCell' = true := one_grCells _
    have o2 : ∀ v ∈ grCells (Y.drop k), v.oneCell' = true := one_grCells _
    have HOPk := HOP.out k
    have HCk := HCut.out k hk HM.out
    by_cases hlt : k < Y.length
    · have hgr : g < wr.heap.size := Nat.lt_of_lt_of_le (HG4.out (by omega)).1 HB.out.size
      have c0 : wr.cell? ⟨g, k * 3, none⟩ = some (.string (atG Y k).tp) := hcW _ HB.out k hlt 0 (by omega)
      have c1 : wr.cell? ⟨g, k * 3 + 1, none⟩ = some (.string (atG Y k).si) := hcW _ HB.out k hlt 1 (by omega)
      have c2 : wr.cell? ⟨g, k * 3 + 2, none⟩ = some (.int .i64 (atG Y k).un) := hcW _ HB.out k hlt 2 (by omega)
      have KL1 := KL.out k
      have k0 : (0 : Int) ≤ k := by omega
      have k1 : (k : Int) < Y.length := by omega
      have q1 : decide ((k : Int) < (Y.length : Int)) = true := by rw [decide_eq_true_iff]; omega
      have HM1 : Hid (grLess (atG Y k) ⟨tp, si, un⟩ = true → ∀ j, j < k + 1 → grLess (atG Y j) ⟨tp, si, un⟩ = true) := fun h j hj => by
        by_cases e : j = k
        · subst e; exact h
        · exact HM.out j (by omega)
      have HCk1 : Hid (grLess (atG Y k) ⟨tp, si, un⟩ = false → insG Y ⟨tp, si, un⟩ = Y.take k ++ ⟨tp, si, un⟩ :: Y.drop k) := fun h => HCk (fun _ => h)
      clear hcW KL HCk HCut HOP
      generalize hls : grLess (atG Y k) ⟨tp, si, un⟩ = ls at *
      clear hls
      generalize atG Y k = y at *
      obtain ⟨ke, na, va⟩ := y
      dsimp only at *
      cases ls with
      | true =>
        have HM2 : Hid (∀ j, j < k + 1 → grLess (atG Y j) ⟨tp, si, un⟩ = true) := HM1.out rfl
        have KL1 : Hid (∀ W, Calls Try.prog 68 #[.agg #[.string ke, .string na, .int .i64 va], .agg #[.string tp, .string si, .int .i64 un]] W fun e w' => e = .returned (.bool true) ∧ Below W.heap.size W w') := KL1
        clear HM1 HM HC1a HC2a hl1 hl2 o1 o2 HOPk HCk1
        go_upto_region 6 with fail
        refine wp_region_held_drew (S := (fun w' => w'.cell? ⟨g, k * 3, none⟩ = some (.string ke) ∧ w'.cell? ⟨g, k * 3 + 1, none⟩ = some (.string na) ∧ w'.cell? ⟨g, k * 3 + 2, none⟩ = some (.int .i64 va) ∧ w'.cell? ⟨bx, 0, none⟩ = some (.string tp) ∧ w'.cell? ⟨bx, 1, none⟩ = some (.string si) ∧ w'.cell? ⟨bx, 2, none⟩ = some (.int .i64 un))) (by kernel_rfl) ?_ (fun hH0 => ?_)
        · (try dsimp only)
          go_keep
        refine wpAnyH_take (i := 0) (oi := { dst := some 29, op := Op.move (Operand.tmp 11), type := 3, pos := "l08_grant.go:76", after := #[], guard := none }) (v := ?va0) rfl (by kernel_rfl) (by kernel_rfl) (by kernel_rfl) (fun _ _ _ h => h) (Or.inl ⟨by rfl, ?hya0⟩) (by assumption) ?resta0
        case hya0 =>
          intro w hSw
          (try dsimp only at hSw)
          go_simp
          try with_reducible rfl
        try simp only [Act.put, List.setIfInBounds_toArray, List.set_cons_zero, List.set_cons_succ]
        refine wpAnyH_take (i := 1) (oi := { dst := some 30, op := Op.move (Operand.tmp 9), type := 23, pos := "l08_grant.go:76", after := #[], guard := none }) (v := ?va1) rfl (by kernel_rfl) (by kernel_rfl) (by kernel_rfl) (fun _ _ _ h => h) (Or.inl ⟨by rfl, ?hya1⟩) (by assumption) ?resta1
        case hya1 =>
          intro w hSw
          (try dsimp only at hSw)
          go_simp
          try with_reducible rfl
        try simp only [Act.put, List.setIfInBounds_toArray, List.set_cons_zero, List.set_cons_succ]
        refine wpAnyH_take (i := 2) (oi := { dst := some 31, op := Op.call { callee := Callee.builtin Builtin.len, args := #[Operand.tmp 30], argTypes := #[23] }, type := 3, pos := "l08_grant.go:76", after := #[{ on := 1, ground := Ground.data }], guard := none }) (v := ?va2) rfl (by kernel_rfl) (by kernel_rfl) (by kernel_rfl) (fun _ _ _ h => h) (Or.inl ⟨by rfl, ?hya2⟩) (by assumption) ?resta2
        case hya2 =>
          intro w hSw
          (try dsimp only at hSw)
          go_simp
          try with_reducible rfl
        try simp only [Act.put, List.setIfInBounds_toArray, List.set_cons_zero, List.set_cons_succ]
        refine wpAnyH_take (i := 3) (oi := { dst := some 32, op := Op.binOp BinOp.lss 3 (Operand.tmp 29) (Operand.tmp 31) 3, type := 4, pos := "l08_grant.go:76", after := #[{ on := 0, ground := Ground.data }, { on := 2, ground := Ground.data }], guard := none }) (v := ?va3) rfl (by kernel_rfl) (by kernel_rfl) (by kernel_rfl) (fun _ _ _ h => h) (Or.inl ⟨by rfl, ?hya3⟩) (by assumption) ?resta3
        case hya3 =>
          intro w hSw
          (try dsimp only at hSw)
          go_simp
          try with_reducible rfl
        try simp only [Act.put, List.setIfInBounds_toArray, List.set_cons_zero, List.set_cons_succ]
        refine wpAnyH_take (i := 4) (oi := { dst := some 33, op := Op.move (Operand.tmp 32), type := 4, pos := "l08_grant.go:76", after := #[{ on := 3, ground := Ground.data }], guard := none }) (v := ?va4) rfl (by kernel_rfl) (by kernel_rfl) (by kernel_rfl) (fun _ _ _ h => h) (Or.inl ⟨by rfl, ?hya4⟩) (by assumption) ?resta4
        case hya4 =>
          intro w hSw
          (try dsimp only at hSw)
          go_simp
          try with_reducible rfl
        try simp only [Act.put, List.setIfInBounds_toArray, List.set_cons_zero, List.set_cons_succ]
        refine wpAnyH_take (i := 5) (oi := { dst := some 34, op := Op.move (Operand.tmp 9), type := 23, pos := "l08_grant.go:76", after := #[{ on := 4, ground := Ground.guard }], guard := some (4, true) }) (v := ?va5) rfl (by kernel_rfl) (by kernel_rfl) (by kernel_rfl) (fun _ _ _ h => h) (Or.inl ⟨by rfl, ?hya5⟩) (by assumption) ?resta5
        case hya5 =>
          intro w hSw
          (try dsimp only at hSw)
          go_simp
          try with_reducible rfl
        try simp only [Act.put, List.setIfInBounds_toArray, List.set_cons_zero, List.set_cons_succ]
        refine wpAnyH_take (i := 6) (oi := { dst := some 35, op := Op.move (Operand.tmp 11), type := 3, pos := "l08_grant.go:76", after := #[{ on := 4, ground := Ground.guard }], guard := some (4, true) }) (v := ?va6) rfl (by kernel_rfl) (by kernel_rfl) (by kernel_rfl) (fun _ _ _ h => h) (Or.inl ⟨by rfl, ?hya6⟩) (by assumption) ?resta6
        case hya6 =>
          intro w hSw
          (try dsimp only at hSw)
          go_simp
          try with_reducible rfl
        try simp only [Act.put, List.setIfInBounds_toArray, List.set_cons_zero, List.set_cons_succ]
        refine wpAnyH_take (i := 7) (oi := { dst := some 36, op := Op.indexAddr 23 (Operand.tmp 34) (Operand.tmp 35), type := 0, pos := "l08_grant.go:76", after := #[{ on := 5, ground := Ground.data }, { on := 6, ground := Ground.data }, { on := 4, ground := Ground.guard }], guard := some (4, true) }) (v := ?va7) rfl (by kernel_rfl) (by kernel_rfl) (by kernel_rfl) (fun _ _ _ h => h) (Or.inl ⟨by rfl, ?hya7⟩) (by assumption) ?resta7
        case hya7 =>
          intro w hSw
          (try dsimp only at hSw)
          go_simp
          try with_reducible rfl
        try simp only [Act.put, List.setIfInBounds_toArray, List.set_cons_zero, List.set_cons_succ]
        refine wpAnyH_take (i := 8) (oi := { dst := some 37, op := Op.load 64 (Operand.tmp 36), type := 64, pos := "l08_grant.go:76", after := #[{ on := 7, ground := Ground.data }, { on := 4, ground := Ground.guard }], guard := some (4, true) }) (v := ?va8) rfl (by kernel_rfl) (by kernel_rfl) (by kernel_rfl) (fun _ _ _ h => h) (Or.inl ⟨by rfl, ?hya8⟩) (by assumption) ?resta8
        case hya8 =>
          intro w hSw
          (try dsimp only at hSw)
          go_simp
          try with_reducible rfl
        try simp only [Act.put, List.setIfInBounds_toArray, List.set_cons_zero, List.set_cons_succ]
        refine wpAnyH_take (i := 9) (oi := { dst := some 38, op := Op.load 64 (Operand.tmp 10), type := 64, pos := "l08_grant.go:76", after := #[{ on := 4, ground := Ground.guard }], guard := some (4, true) }) (v := ?va9) rfl (by kernel_rfl) (by kernel_rfl) (by kernel_rfl) (fun _ _ _ h => h) (Or.inl ⟨by rfl, ?hya9⟩) (by assumption) ?resta9
        case hya9 =>
          intro w hSw
          (try dsimp only at hSw)
          go_simp
          try with_reducible rfl
        try simp only [Act.put, List.setIfInBounds_toArray, List.set_cons_zero, List.set_cons_succ]
        refine wpAnyH_ready (rs := [10]) (by kernel_rfl) (by simp) ?_
        refine AllReadyH.cons (o := { dst := some 39, op := Op.call { callee := Callee.value (Operand.func 68), args := #[Operand.tmp 37, Operand.tmp 38], argTypes := #[64, 64] }, type := 4, pos := "l08_grant.go:76", after := #[{ on := 8, ground := Ground.data }, { on := 9, ground := Ground.data }, { on := 4, ground := Ground.chain }, { on := 4, ground := Ground.guard }], guard := some (4, true) }) rfl (fun K hK => ?_) AllReadyH.nil
        go_simp
        (go_at_call 68; refine (KL1.out _).mono ?_; rintro e w5 ⟨rfl, hb5⟩; have A5 : Below wr.heap.size wr w5 := (Below.drew (Below.refl _ _)).trans hb5; have d0 : w5.cell? ⟨g, k * 3, none⟩ = some (.string ke) := ((bcell A5).1 _ _ hgr).trans c0; have d1 : w5.cell? ⟨g, k * 3 + 1, none⟩ = some (.string na) := ((bcell A5).1 _ _ hgr).trans c1; have d2 : w5.cell? ⟨g, k * 3 + 2, none⟩ = some (.int .i64 va) := ((bcell A5).1 _ _ hgr).trans c2; have xc0 : w5.cell? ⟨bx, 0, none⟩ = some (.string tp) := ((bcell A5).1 _ _ hxr).trans xr0; have xc1 : w5.cell? ⟨bx, 1, none⟩ = some (.string si) := ((bcell A5).1 _ _ hxr).trans xr1; have xc2 : w5.cell? ⟨bx, 2, none⟩ = some (.int .i64 un) := ((bcell A5).1 _ _ hxr).trans xr2)
        try (go_wp2_with fail)
        refine hK.out _ _ ?_ (fun hH1 => ?_)
        · (try dsimp only)
          first | go_keep | (refine ⟨?_, ?_, ?_, ?_, ?_, ?_⟩ <;> assumption)
        clear hK K hH0
        try simp only [Act.put, List.setIfInBounds_toArray, List.set_cons_zero, List.set_cons_succ]
        refine wpAnyH_take (i := 11) (oi := { dst := some 40, op := Op.pick (Operand.tmp 33) (Operand.tmp 39) (Operand.const (Value.bool false)), type := 4, pos := "l08_grant.go:76", after := #[{ on := 4, ground := Ground.data }, { on := 10, ground := Ground.data }], guard := none }) (v := ?va11) rfl (by kernel_rfl) (by kernel_rfl) (by kernel_rfl) (fun _ _ _ h => h) (Or.inl ⟨by rfl, ?hya11⟩) (by assumption) ?resta11
        case hya11 =>
          intro w hSw
          (try dsimp only at hSw)
          go_simp
          try with_reducible rfl
        try simp only [Act.put, List.setIfInBounds_toArray, List.set_cons_zero, List.set_cons_succ]
        refine wpAnyH_done (by kernel_rfl) ?_ _
        all_goals go_wp2
        have BN : Hid (Below W4.heap.size W4 w5) := HB.out.trans (A5.mono HB.out.size)
        go_roundw
        case rel => exact ⟨k + 1, by omega, by go_num, HM2, BN⟩
        case measure => simp [intOf]; omega
      | false =>
        have KL1 : Hid (∀ W, Calls Try.prog 68 #[.agg #[.string ke, .string na, .int .i64 va], .agg #[.string tp, .string si, .int .i64 un]] W fun e w' => e = .returned (.bool false) ∧ Below W.heap.size W w') := KL1
        have hE := HCk1.out rfl
        have HOP : Hid (∀ (W : World) (B : Nat) (v : Value), W.ownsRow B 64 3 v (k + 1 + (Y.length - k)) (grCells (Y.take k) ++ (grVals ⟨tp, si, un⟩ ++ grCells (Y.drop k))) → SliceG W B v (insG Y ⟨tp, si, un⟩)) := fun W B v h => HOPk W B v hk h hE
        clear HM1 HM HOPk HCk1 hE
        go_upto_region 6 with fail
        refine wp_region_held_drew (S := (fun w' => w'.cell? ⟨g, k * 3, none⟩ = some (.string ke) ∧ w'.cell? ⟨g, k * 3 + 1, none⟩ = some (.string na) ∧ w'.cell? ⟨g, k * 3 + 2, none⟩ = some (.int .i64 va) ∧ w'.cell? ⟨bx, 0, none⟩ = some (.string tp) ∧ w'.cell? ⟨bx, 1, none⟩ = some (.string si) ∧ w'.cell? ⟨bx, 2, none⟩ = some (.int .i64 un))) (by kernel_rfl) ?_ (fun hH0 => ?_)
        · (try dsimp only)
          go_keep
        refine wpAnyH_take (i := 0) (oi := { dst := some 29, op := Op.move (Operand.tmp 11), type := 3, pos := "l08_grant.go:76", after := #[], guard := none }) (v := ?vb0) rfl (by kernel_rfl) (by kernel_rfl) (by kernel_rfl) (fun _ _ _ h => h) (Or.inl ⟨by rfl, ?hyb0⟩) (by assumption) ?restb0
        case hyb0 =>
          intro w hSw
          (try dsimp only at hSw)
          go_simp
          try with_reducible rfl
        try simp only [Act.put, List.setIfInBounds_toArray, List.set_cons_zero, List.set_cons_succ]
        refine wpAnyH_take (i := 1) (oi := { dst := some 30, op := Op.move (Operand.tmp 9), type := 23, pos := "l08_grant.go:76", after := #[], guard := none }) (v := ?vb1) rfl (by kernel_rfl) (by kernel_rfl) (by kernel_rfl) (fun _ _ _ h => h) (Or.inl ⟨by rfl, ?hyb1⟩) (by assumption) ?restb1
        case hyb1 =>
          intro w hSw
          (try dsimp only at hSw)
          go_simp
          try with_reducible rfl
        try simp only [Act.put, List.setIfInBounds_toArray, List.set_cons_zero, List.set_cons_succ]
        refine wpAnyH_take (i := 2) (oi := { dst := some 31, op := Op.call { callee := Callee.builtin Builtin.len, args := #[Operand.tmp 30], argTypes := #[23] }, type := 3, pos := "l08_grant.go:76", after := #[{ on := 1, ground := Ground.data }], guard := none }) (v := ?vb2) rfl (by kernel_rfl) (by kernel_rfl) (by kernel_rfl) (fun _ _ _ h => h) (Or.inl ⟨by rfl, ?hyb2⟩) (by assumption) ?restb2
        case hyb2 =>
          intro w hSw
          (try dsimp only at hSw)
          go_simp
          try with_reducible rfl
        try simp only [Act.put, List.setIfInBounds_toArray, List.set_cons_zero, List.set_cons_succ]
        refine wpAnyH_take (i := 3) (oi := { dst := some 32, op := Op.binOp BinOp.lss 3 (Operand.tmp 29) (Operand.tmp 31) 3, type := 4, pos := "l08_grant.go:76", after := #[{ on := 0, ground := Ground.data }, { on := 2, ground := Ground.data }], guard := none }) (v := ?vb3) rfl (by kernel_rfl) (by kernel_rfl) (by kernel_rfl) (fun _ _ _ h => h) (Or.inl ⟨by rfl, ?hyb3⟩) (by assumption) ?restb3
        case hyb3 =>
          intro w hSw
          (try dsimp only at hSw)
          go_simp
          try with_reducible rfl
        try simp only [Act.put, List.setIfInBounds_toArray, List.set_cons_zero, List.set_cons_succ]
        refine wpAnyH_take (i := 4) (oi := { dst := some 33, op := Op.move (Operand.tmp 32), type := 4, pos := "l08_grant.go:76", after := #[{ on := 3, ground := Ground.data }], guard := none }) (v := ?vb4) rfl (by kernel_rfl) (by kernel_rfl) (by kernel_rfl) (fun _ _ _ h => h) (Or.inl ⟨by rfl, ?hyb4⟩) (by assumption) ?restb4
        case hyb4 =>
          intro w hSw
          (try dsimp only at hSw)
          go_simp
          try with_reducible rfl
        try simp only [Act.put, List.setIfInBounds_toArray, List.set_cons_zero, List.set_cons_succ]
        refine wpAnyH_take (i := 5) (oi := { dst := some 34, op := Op.move (Operand.tmp 9), type := 23, pos := "l08_grant.go:76", after := #[{ on := 4, ground := Ground.guard }], guard := some (4, true) }) (v := ?vb5) rfl (by kernel_rfl) (by kernel_rfl) (by kernel_rfl) (fun _ _ _ h => h) (Or.inl ⟨by rfl, ?hyb5⟩) (by assumption) ?restb5
        case hyb5 =>
          intro w hSw
          (try dsimp only at hSw)
          go_simp
          try with_reducible rfl
        try simp only [Act.put, List.setIfInBounds_toArray, List.set_cons_zero, List.set_cons_succ]
        refine wpAnyH_take (i := 6) (oi := { dst := some 35, op := Op.move (Operand.tmp 11), type := 3, pos := "l08_grant.go:76", after := #[{ on := 4, ground := Ground.guard }], guard := some (4, true) }) (v := ?vb6) rfl (by kernel_rfl) (by kernel_rfl) (by kernel_rfl) (fun _ _ _ h => h) (Or.inl ⟨by rfl, ?hyb6⟩) (by assumption) ?restb6
        case hyb6 =>
          intro w hSw
          (try dsimp only at hSw)
          go_simp
          try with_reducible rfl
        try simp only [Act.put, List.setIfInBounds_toArray, List.set_cons_zero, List.set_cons_succ]
        refine wpAnyH_take (i := 7) (oi := { dst := some 36, op := Op.indexAddr 23 (Operand.tmp 34) (Operand.tmp 35), type := 0, pos := "l08_grant.go:76", after := #[{ on := 5, ground := Ground.data }, { on := 6, ground := Ground.data }, { on := 4, ground := Ground.guard }], guard := some (4, true) }) (v := ?vb7) rfl (by kernel_rfl) (by kernel_rfl) (by kernel_rfl) (fun _ _ _ h => h) (Or.inl ⟨by rfl, ?hyb7⟩) (by assumption) ?restb7
        case hyb7 =>
          intro w hSw
          (try dsimp only at hSw)
          go_simp
          try with_reducible rfl
        try simp only [Act.put, List.setIfInBounds_toArray, List.set_cons_zero, List.set_cons_succ]
        refine wpAnyH_take (i := 8) (oi := { dst := some 37, op := Op.load 64 (Operand.tmp 36), type := 64, pos := "l08_grant.go:76", after := #[{ on := 7, ground := Ground.data }, { on := 4, ground := Ground.guard }], guard := some (4, true) }) (v := ?vb8) rfl (by kernel_rfl) (by kernel_rfl) (by kernel_rfl) (fun _ _ _ h => h) (Or.inl ⟨by rfl, ?hyb8⟩) (by assumption) ?restb8
        case hyb8 =>
          intro w hSw
          (try dsimp only at hSw)
          go_simp
          try with_reducible rfl
        try simp only [Act.put, List.setIfInBounds_toArray, List.set_cons_zero, List.set_cons_succ]
        refine wpAnyH_take (i := 9) (oi := { dst := some 38, op := Op.load 64 (Operand.tmp 10), type := 64, pos := "l08_grant.go:76", after := #[{ on := 4, ground := Ground.guard }], guard := some (4, true) }) (v := ?vb9) rfl (by kernel_rfl) (by kernel_rfl) (by kernel_rfl) (fun _ _ _ h => h) (Or.inl ⟨by rfl, ?hyb9⟩) (by assumption) ?restb9
        case hyb9 =>
          intro w hSw
          (try dsimp only at hSw)
          go_simp
          try with_reducible rfl
        try simp only [Act.put, List.setIfInBounds_toArray, List.set_cons_zero, List.set_cons_succ]
        refine wpAnyH_ready (rs := [10]) (by kernel_rfl) (by simp) ?_
        refine AllReadyH.cons (o := { dst := some 39, op := Op.call { callee := Callee.value (Operand.func 68), args := #[Operand.tmp 37, Operand.tmp 38], argTypes := #[64, 64] }, type := 4, pos := "l08_grant.go:76", after := #[{ on := 8, ground := Ground.data }, { on := 9, ground := Ground.data }, { on := 4, ground := Ground.chain }, { on := 4, ground := Ground.guard }], guard := some (4, true) }) rfl (fun K hK => ?_) AllReadyH.nil
        go_simp
        (go_at_call 68; refine (KL1.out _).mono ?_; rintro e w5 ⟨rfl, hb5⟩; have A5 : Below wr.heap.size wr w5 := (Below.drew (Below.refl _ _)).trans hb5; have d0 : w5.cell? ⟨g, k * 3, none⟩ = some (.string ke) := ((bcell A5).1 _ _ hgr).trans c0; have d1 : w5.cell? ⟨g, k * 3 + 1, none⟩ = some (.string na) := ((bcell A5).1 _ _ hgr).trans c1; have d2 : w5.cell? ⟨g, k * 3 + 2, none⟩ = some (.int .i64 va) := ((bcell A5).1 _ _ hgr).trans c2; have xc0 : w5.cell? ⟨bx, 0, none⟩ = some (.string tp) := ((bcell A5).1 _ _ hxr).trans xr0; have xc1 : w5.cell? ⟨bx, 1, none⟩ = some (.string si) := ((bcell A5).1 _ _ hxr).trans xr1; have xc2 : w5.cell? ⟨bx, 2, none⟩ = some (.int .i64 un) := ((bcell A5).1 _ _ hxr).trans xr2)
        try (go_wp2_with fail)
        refine hK.out _ _ ?_ (fun hH1 => ?_)
        · (try dsimp only)
          first | go_keep | (refine ⟨?_, ?_, ?_, ?_, ?_, ?_⟩ <;> assumption)
        clear hK K hH0
        try simp only [Act.put, List.setIfInBounds_toArray, List.set_cons_zero, List.set_cons_succ]
        refine wpAnyH_take (i := 11) (oi := { dst := some 40, op := Op.pick (Operand.tmp 33) (Operand.tmp 39) (Operand.const (Value.bool false)), type := 4, pos := "l08_grant.go:76", after := #[{ on := 4, ground := Ground.data }, { on := 10, ground := Ground.data }], guard := none }) (v := ?vb11) rfl (by kernel_rfl) (by kernel_rfl) (by kernel_rfl) (fun _ _ _ h => h) (Or.inl ⟨by rfl, ?hyb11⟩) (by assumption) ?restb11
        case hyb11 =>
          intro w hSw
          (try dsimp only at hSw)
          go_simp
          try with_reducible rfl
        try simp only [Act.put, List.setIfInBounds_toArray, List.set_cons_zero, List.set_cons_succ]
        refine wpAnyH_done (by kernel_rfl) ?_ _
        have BC : Hid (Below b w w5) := BR.out.trans (A5.mono (by have := BR.out.size; omega))
        have XC : Hid (BoxG w5 b) := X4.out.below (HB.out.trans (A5.mono HB.out.size))
        have hxc : bx < w5.heap.size := Nat.lt_of_lt_of_le hxr A5.size
        have BW4 : Below W4.heap.size W4 w5 := HB.out.trans (A5.mono HB.out.size)
        have HC1 : Hid (∀ W, Below w5.heap.size w5 W → ∀ j u, (grCells (Y.take k))[j]? = some u → W.cell? ((⟨g, 0, none⟩ : Addr).add j) = some u) := fun W hb => HC1a.out W (BW4.trans (hb.mono BW4.size))
        have HC2 : Hid (∀ W, Below w5.heap.size w5 W → ∀ j u, (grCells (Y.drop k))[j]? = some u → W.cell? ((⟨g, k * 3, none⟩ : Addr).add j) = some u) := fun W hb => HC2a.out W (BW4.trans (hb.mono BW4.size))
        have hbc : b < w5.heap.size := by omega
        clear HC1a HC2a BW4
        clear hb5 BR X4 B4 HB hx0 U0 xr0 xr1 xr2 hxr c0 c1 c2 A5 d0 d1 d2 hgr KL1
        generalize hwc5 : w5 = Wc at *
        clear hwc5
        generalize insG Y ⟨tp, si, un⟩ = M at *
        generalize grCells (Y.take k) = C1 at *
        generalize grCells (Y.drop k) = C2 at *
        generalize hnn : Y.length = n at *
        have O0 : Hid ((Wc.alloc (.cells #[] 64)).ownsRow Wc.heap.size 64 3 (.slice (some ⟨Wc.heap.size, 0, none⟩) 0 0) 0 (grCells [])) := World.ownsRow_made Wc #[] 0 (Nat.le_refl _) (Nat.zero_le _) rfl
        have AA : Hid (Below Wc.heap.size Wc (Wc.alloc (.cells #[] 64))) := (Below.refl _ _).alloc (Nat.le_refl _) _
        have BA : Hid (Below b w (Wc.alloc (.cells #[] 64))) := BC.out.trans (AA.out.mono (by omega))
        have qk0 : (0 : Int) ≤ (k : Nat) := by omega
        have qk1 : ((k : Nat) : Int) ≤ cap := by omega
        have qk2 : ((k : Nat) : Int) ≤ n := by omega
        go_wp2_with (at_builtin; go_must (refine wpList_append_own _ rfl _ _ 23 rfl Wc.heap.size 64 i0 (.agg #[.string ⟨#[]⟩, .string ⟨#[]⟩, .int .i64 0]) 3 40 Try.underlying23 hi hy0 hy1 hy2 rfl (by decide) _ _ _ rfl O0.out ⟨g, 0, none⟩ k _ C1 rfl hl1 (HC1.out _ AA.out) o1 (by unfold maxLen; omega) (by omega) (by simp) ?_))
        intro v1 w6 ho1 hg1 hn1
        have A6 : Hid (Below Wc.heap.size Wc w6) := AA.out.grown hg1 (by simp) (fun j hj => own_base O0.out j hj)
        have O1 : Hid (World.ownsRow w6 Wc.heap.size 64 3 v1 (0 + k) (grCells [] ++ C1)) := by show World.ownsRow _ _ _ _ _ _ _; first | exact ho1 | (rw [Nat.zero_add]; exact ho1)
        have y0 : w6.cell? ⟨bx, 0, none⟩ = some (.string tp) := ((bcell A6.out).1 _ _ hxc).trans xc0
        have y1 : w6.cell? ⟨bx, 1, none⟩ = some (.string si) := ((bcell A6.out).1 _ _ hxc).trans xc1
        have y2 : w6.cell? ⟨bx, 2, none⟩ = some (.int .i64 un) := ((bcell A6.out).1 _ _ hxc).trans xc2
        have z6 : Wc.heap.size ≤ w6.heap.size := A6.out.size
        clear ho1 hg1 hn1 O0 AA BA xc0 xc1 xc2
        go_wp2_with (at_builtin; go_must (refine wpList_append_own _ rfl _ _ 23 rfl Wc.heap.size 64 i0 (.agg #[.string ⟨#[]⟩, .string ⟨#[]⟩, .int .i64 0]) 3 40 Try.underlying23 hi hy0 hy1 hy2 rfl (by decide) _ _ _ rfl (O1.out.alloc _) ⟨w6.heap.size, 0, none⟩ 1 1 (grVals ⟨tp, si, un⟩) rfl rfl (cell_Gr _ ⟨tp, si, un⟩ _) (one_Gr ⟨tp, si, un⟩) (by unfold maxLen; omega) (by omega) (by simp; omega) ?_))
        intro v2 w7 ho2 hg2 hn2
        have A7 : Hid (Below Wc.heap.size Wc w7) := (A6.out.alloc z6 _).grown hg2 (by simp; omega) (fun j hj => own_base O1.out j hj)
        have O2 : Hid (World.ownsRow w7 Wc.heap.size 64 3 v2 _ _) := ho2
        have z7 : Wc.heap.size ≤ w7.heap.size := A7.out.size
        have B7 : Hid (Below b w w7) := BC.out.trans (A7.out.mono (by omega))
        clear ho2 hg2 hn2 O1 A6 y0 y1 y2
        by_cases hcl : k = cap
        · have hz0 : n - k = 0 := by omega
          have hC2 : C2 = [] := List.length_eq_zero_iff.1 (by omega)
          go_wp2_with (at_builtin; go_must (refine wpList_append_own _ rfl _ _ 23 rfl Wc.heap.size 64 i0 (.agg #[.string ⟨#[]⟩, .string ⟨#[]⟩, .int .i64 0]) 3 40 Try.underlying23 hi hy0 hy1 hy2 rfl (by decide) _ _ _ rfl O2.out ⟨g, 0, none⟩ 0 0 [] rfl rfl (by intro j u h; cases h) (by intro v h; cases h) (by unfold maxLen; omega) (by omega) z7 ?_))
          intro v3 w8 ho3 hg3 hn3
          have S8 : Hid (SliceG w8 Wc.heap.size v3 M) := HOP.out _ _ _ (by have h := ho3; rw [hz0, hC2]; simpa [grCells, List.append_assoc, hcl] using h)
          have A8 : Hid (Below Wc.heap.size Wc w8) := A7.out.grown hg3 z7 (fun j hj => own_base O2.out j hj)
          have X8 : Hid (BoxG w8 b) := XC.out.below A8.out
          have B8 : Hid (Below b w w8) := BC.out.trans (A8.out.mono (by omega))
          obtain ⟨pq, cq, hv3⟩ : ∃ pq cq, v3 = .slice pq M.length cq := by obtain ⟨⟨p, c, e, -⟩, -⟩ := S8.out; exact ⟨p, c, e⟩
          clear ho3 hg3 hn3 O2 A7 A8 HOP hl1 hl2 hz0 hcl
          generalize hm : M.length = m at *
          subst hv3
          obtain ⟨x0, x1, x2, f0, f1, f2, hltx⟩ := X8.out
          go_wp2
          refine bodyPost_ret (v := .agg #[.slice pq m cq, .bool false, .int .i64 0]) (by simp [results, Try.results58, go_sem, x0, x1, x2]) rfl ⟨_, rfl, ⟨_, by rw [HR.out], by rw [HR.out, hbb]; exact (S8.out.store3 hbc).mono (by omega)⟩, by rw [hbb]; exact store3G_below B8.out⟩
        · have k4 : ¬ (k = cap) := hcl
          go_wp2_with (at_builtin; go_must (refine wpList_append_own _ rfl _ _ 23 rfl Wc.heap.size 64 i0 (.agg #[.string ⟨#[]⟩, .string ⟨#[]⟩, .int .i64 0]) 3 40 Try.underlying23 hi hy0 hy1 hy2 rfl (by decide) _ _ _ rfl O2.out ⟨g, k * 3, none⟩ (n - k) (cap - k) C2 rfl hl2 (HC2.out _ A7.out) o2 (by unfold maxLen; omega) (by omega) z7 ?_))
          intro v3 w8 ho3 hg3 hn3
          have S8 : Hid (SliceG w8 Wc.heap.size v3 M) := HOP.out _ _ _ (by have h := ho3; simpa [grCells, List.append_assoc] using h)
          have A8 : Hid (Below Wc.heap.size Wc w8) := A7.out.grown hg3 z7 (fun j hj => own_base O2.out j hj)
          have X8 : Hid (BoxG w8 b) := XC.out.below A8.out
          have B8 : Hid (Below b w w8) := BC.out.trans (A8.out.mono (by omega))
          obtain ⟨pq, cq, hv3⟩ : ∃ pq cq, v3 = .slice pq M.length cq := by obtain ⟨⟨p, c, e, -⟩, -⟩ := S8.out; exact ⟨p, c, e⟩
          clear ho3 hg3 hn3 O2 A7 A8 HOP hl1 hl2 k4 hcl
          generalize hm : M.length = m at *
          subst hv3
          obtain ⟨x0, x1, x2, f0, f1, f2, hltx⟩ := X8.out
          go_wp2
          refine bodyPost_ret (v := .agg #[.slice pq m cq, .bool false, .int .i64 0]) (by simp [results, Try.results58, go_sem, x0, x1, x2]) rfl ⟨_, rfl, ⟨_, by rw [HR.out], by rw [HR.out, hbb]; exact (S8.out.store3 hbc).mono (by omega)⟩, by rw [hbb]; exact store3G_below B8.out⟩
    · obtain rfl : k = Y.length := by omega
      have q1 : decide ((Y.length : Int) < (Y.length : Int)) = false := by rw [decide_eq_false_iff_not]; omega
      have hE := HCk (fun h => absurd h hlt)
      have HOP : Hid (∀ (W : World) (B : Nat) (v : Value), W.ownsRow B 64 3 v (Y.length + 1 + (Y.length - Y.length)) (grCells (Y.take Y.length) ++ (grVals ⟨tp, si, un⟩ ++ grCells (Y.drop Y.length))) → SliceG W B v (insG Y ⟨tp, si, un⟩)) := fun W B v h => HOPk W B v hk h hE
      clear HOPk HCk hE HCut KL hcW HM hlt
      have BC : Hid (Below b w wr.drew) := BR.out.drew
      have XC : Hid (BoxG wr.drew b) := X4.out.below HB.out.drew
      have xc0 : wr.drew.cell? ⟨bx, 0, none⟩ = some (.string tp) := xr0
      have xc1 : wr.drew.cell? ⟨bx, 1, none⟩ = some (.string si) := xr1
      have xc2 : wr.drew.cell? ⟨bx, 2, none⟩ = some (.int .i64 un) := xr2
      have hxc : bx < wr.drew.heap.size := hxr
      have BW4 : Below W4.heap.size W4 wr.drew := HB.out.drew
      have HC1 : Hid (∀ W, Below wr.drew.heap.size wr.drew W → ∀ j u, (grCells (Y.take Y.length))[j]? = some u → W.cell? ((⟨g, 0, none⟩ : Addr).add j) = some u) := fun W hb => HC1a.out W (BW4.trans (hb.mono BW4.size))
      have HC2 : Hid (∀ W, Below wr.drew.heap.size wr.drew W → ∀ j u, (grCells (Y.drop Y.length))[j]? = some u → W.cell? ((⟨g, Y.length * 3, none⟩ : Addr).add j) = some u) := fun W hb => HC2a.out W (BW4.trans (hb.mono BW4.size))
      have hbc : b < wr.drew.heap.size := by omega
      clear HC1a HC2a BW4
      go_upto_region 6 with fail
      refine wp_region_held_drew (S := (fun w' => w'.cell? ⟨bx, 0, none⟩ = some (.string tp))) (by kernel_rfl) ?_ (fun hH0 => ?_)
      · (try dsimp only)
        go_keep
      refine wpAnyH_take (i := 0) (oi := { dst := some 29, op := Op.move (Operand.tmp 11), type := 3, pos := "l08_grant.go:76", after := #[], guard := none }) (v := ?vc0) rfl (by kernel_rfl) (by kernel_rfl) (by kernel_rfl) (fun _ _ _ h => h) (Or.inl ⟨by rfl, ?hyc0⟩) (by assumption) ?restc0
      case hyc0 =>
        intro w hSw
        (try dsimp only at hSw)
        go_simp
        try with_reducible rfl
      try simp only [Act.put, List.setIfInBounds_toArray, List.set_cons_zero, List.set_cons_succ]
      refine wpAnyH_take (i := 1) (oi := { dst := some 30, op := Op.move (Operand.tmp 9), type := 23, pos := "l08_grant.go:76", after := #[], guard := none }) (v := ?vc1) rfl (by kernel_rfl) (by kernel_rfl) (by kernel_rfl) (fun _ _ _ h => h) (Or.inl ⟨by rfl, ?hyc1⟩) (by assumption) ?restc1
      case hyc1 =>
        intro w hSw
        (try dsimp only at hSw)
        go_simp
        try with_reducible rfl
      try simp only [Act.put, List.setIfInBounds_toArray, List.set_cons_zero, List.set_cons_succ]
      refine wpAnyH_take (i := 2) (oi := { dst := some 31, op := Op.call { callee := Callee.builtin Builtin.len, args := #[Operand.tmp 30], argTypes := #[23] }, type := 3, pos := "l08_grant.go:76", after := #[{ on := 1, ground := Ground.data }], guard := none }) (v := ?vc2) rfl (by kernel_rfl) (by kernel_rfl) (by kernel_rfl) (fun _ _ _ h => h) (Or.inl ⟨by rfl, ?hyc2⟩) (by assumption) ?restc2
      case hyc2 =>
        intro w hSw
        (try dsimp only at hSw)
        go_simp
        try with_reducible rfl
      try simp only [Act.put, List.setIfInBounds_toArray, List.set_cons_zero, List.set_cons_succ]
      refine wpAnyH_take (i := 3) (oi := { dst := some 32, op := Op.binOp BinOp.lss 3 (Operand.tmp 29) (Operand.tmp 31) 3, type := 4, pos := "l08_grant.go:76", after := #[{ on := 0, ground := Ground.data }, { on := 2, ground := Ground.data }], guard := none }) (v := ?vc3) rfl (by kernel_rfl) (by kernel_rfl) (by kernel_rfl) (fun _ _ _ h => h) (Or.inl ⟨by rfl, ?hyc3⟩) (by assumption) ?restc3
      case hyc3 =>
        intro w hSw
        (try dsimp only at hSw)
        go_simp
        try with_reducible rfl
      try simp only [Act.put, List.setIfInBounds_toArray, List.set_cons_zero, List.set_cons_succ]
      refine wpAnyH_take (i := 4) (oi := { dst := some 33, op := Op.move (Operand.tmp 32), type := 4, pos := "l08_grant.go:76", after := #[{ on := 3, ground := Ground.data }], guard := none }) (v := ?vc4) rfl (by kernel_rfl) (by kernel_rfl) (by kernel_rfl) (fun _ _ _ h => h) (Or.inl ⟨by rfl, ?hyc4⟩) (by assumption) ?restc4
      case hyc4 =>
        intro w hSw
        (try dsimp only at hSw)
        go_simp
        try with_reducible rfl
      try simp only [Act.put, List.setIfInBounds_toArray, List.set_cons_zero, List.set_cons_succ]
      refine wpAnyH_take (i := 5) (oi := { dst := some 34, op := Op.move (Operand.tmp 9), type := 23, pos := "l08_grant.go:76", after := #[{ on := 4, ground := Ground.guard }], guard := some (4, true) }) (v := undef) rfl (by kernel_rfl) (by kernel_rfl) (by kernel_rfl) (fun _ _ _ h => h) (Or.inr ⟨by rfl, rfl⟩) (by assumption) ?_
      try simp only [Act.put, List.setIfInBounds_toArray, List.set_cons_zero, List.set_cons_succ]
      refine wpAnyH_take (i := 6) (oi := { dst := some 35, op := Op.move (Operand.tmp 11), type := 3, pos := "l08_grant.go:76", after := #[{ on := 4, ground := Ground.guard }], guard := some (4, true) }) (v := undef) rfl (by kernel_rfl) (by kernel_rfl) (by kernel_rfl) (fun _ _ _ h => h) (Or.inr ⟨by rfl, rfl⟩) (by assumption) ?_
      try simp only [Act.put, List.setIfInBounds_toArray, List.set_cons_zero, List.set_cons_succ]
      refine wpAnyH_take (i := 7) (oi := { dst := some 36, op := Op.indexAddr 23 (Operand.tmp 34) (Operand.tmp 35), type := 0, pos := "l08_grant.go:76", after := #[{ on := 5, ground := Ground.data }, { on := 6, ground := Ground.data }, { on := 4, ground := Ground.guard }], guard := some (4, true) }) (v := undef) rfl (by kernel_rfl) (by kernel_rfl) (by kernel_rfl) (fun _ _ _ h => h) (Or.inr ⟨by rfl, rfl⟩) (by assumption) ?_
      try simp only [Act.put, List.setIfInBounds_toArray, List.set_cons_zero, List.set_cons_succ]
      refine wpAnyH_take (i := 8) (oi := { dst := some 37, op := Op.load 64 (Operand.tmp 36), type := 64, pos := "l08_grant.go:76", after := #[{ on := 7, ground := Ground.data }, { on := 4, ground := Ground.guard }], guard := some (4, true) }) (v := undef) rfl (by kernel_rfl) (by kernel_rfl) (by kernel_rfl) (fun _ _ _ h => h) (Or.inr ⟨by rfl, rfl⟩) (by assumption) ?_
      try simp only [Act.put, List.setIfInBounds_toArray, List.set_cons_zero, List.set_cons_succ]
      refine wpAnyH_take (i := 9) (oi := { dst := some 38, op := Op.load 64 (Operand.tmp 10), type := 64, pos := "l08_grant.go:76", after := #[{ on := 4, ground := Ground.guard }], guard := some (4, true) }) (v := undef) rfl (by kernel_rfl) (by kernel_rfl) (by kernel_rfl) (fun _ _ _ h => h) (Or.inr ⟨by rfl, rfl⟩) (by assumption) ?_
      try simp only [Act.put, List.setIfInBounds_toArray, List.set_cons_zero, List.set_cons_succ]
      refine wpAnyH_take (i := 10) (oi := { dst := some 39, op := Op.call { callee := Callee.value (Operand.func 68), args := #[Operand.tmp 37, Operand.tmp 38], argTypes := #[64, 64] }, type := 4, pos := "l08_grant.go:76", after := #[{ on := 8, ground := Ground.data }, { on := 9, ground := Ground.data }, { on := 4, ground := Ground.chain }, { on := 4, ground := Ground.guard }], guard := some (4, true) }) (v := undef) rfl (by kernel_rfl) (by kernel_rfl) (by kernel_rfl) (fun _ _ _ h => h) (Or.inr ⟨by rfl, rfl⟩) (by assumption) ?_
      try simp only [Act.put, List.setIfInBounds_toArray, List.set_cons_zero, List.set_cons_succ]
      refine wpAnyH_take (i := 11) (oi := { dst := some 40, op := Op.pick (Operand.tmp 33) (Operand.tmp 39) (Operand.const (Value.bool false)), type := 4, pos := "l08_grant.go:76", after := #[{ on := 4, ground := Ground.data }, { on := 10, ground := Ground.data }], guard := none }) (v := ?vc11) rfl (by kernel_rfl) (by kernel_rfl) (by kernel_rfl) (fun _ _ _ h => h) (Or.inl ⟨by rfl, ?hyc11⟩) (by assumption) ?restc11
      case hyc11 =>
        intro w hSw
        (try dsimp only at hSw)
        go_simp
        try with_reducible rfl
      try simp only [Act.put, List.setIfInBounds_toArray, List.set_cons_zero, List.set_cons_succ]
      refine wpAnyH_done (by kernel_rfl) ?_ _
      clear BR X4 B4 HB hx0 U0 xr0 xr1 xr2 hxr
      generalize hwc5 : wr.drew = Wc at *
      clear hwc5
      generalize insG Y ⟨tp, si, un⟩ = M at *
      generalize grCells (Y.take Y.length) = C1 at *
      generalize grCells (Y.drop Y.length) = C2 at *
      generalize hnn : Y.length = n at *
      have O0 : Hid ((Wc.alloc (.cells #[] 64)).ownsRow Wc.heap.size 64 3 (.slice (some ⟨Wc.heap.size, 0, none⟩) 0 0) 0 (grCells [])) := World.ownsRow_made Wc #[] 0 (Nat.le_refl _) (Nat.zero_le _) rfl
      have AA : Hid (Below Wc.heap.size Wc (Wc.alloc (.cells #[] 64))) := (Below.refl _ _).alloc (Nat.le_refl _) _
      have BA : Hid (Below b w (Wc.alloc (.cells #[] 64))) := BC.out.trans (AA.out.mono (by omega))
      have qk0 : (0 : Int) ≤ (n : Nat) := by omega
      have qk1 : ((n : Nat) : Int) ≤ cap := by omega
      have qk2 : ((n : Nat) : Int) ≤ n := by omega
      go_wp2_with (at_builtin; go_must (refine wpList_append_own _ rfl _ _ 23 rfl Wc.heap.size 64 i0 (.agg #[.string ⟨#[]⟩, .string ⟨#[]⟩, .int .i64 0]) 3 40 Try.underlying23 hi hy0 hy1 hy2 rfl (by decide) _ _ _ rfl O0.out ⟨g, 0, none⟩ n _ C1 rfl hl1 (HC1.out _ AA.out) o1 (by unfold maxLen; omega) (by omega) (by simp) ?_))
      intro v1 w6 ho1 hg1 hn1
      have A6 : Hid (Below Wc.heap.size Wc w6) := AA.out.grown hg1 (by simp) (fun j hj => own_base O0.out j hj)
      have O1 : Hid (World.ownsRow w6 Wc.heap.size 64 3 v1 (0 + n) (grCells [] ++ C1)) := by show World.ownsRow _ _ _ _ _ _ _; first | exact ho1 | (rw [Nat.zero_add]; exact ho1)
      have y0 : w6.cell? ⟨bx, 0, none⟩ = some (.string tp) := ((bcell A6.out).1 _ _ hxc).trans xc0
      have y1 : w6.cell? ⟨bx, 1, none⟩ = some (.string si) := ((bcell A6.out).1 _ _ hxc).trans xc1
      have y2 : w6.cell? ⟨bx, 2, none⟩ = some (.int .i64 un) := ((bcell A6.out).1 _ _ hxc).trans xc2
      have z6 : Wc.heap.size ≤ w6.heap.size := A6.out.size
      clear ho1 hg1 hn1 O0 AA BA xc0 xc1 xc2
      go_wp2_with (at_builtin; go_must (refine wpList_append_own _ rfl _ _ 23 rfl Wc.heap.size 64 i0 (.agg #[.string ⟨#[]⟩, .string ⟨#[]⟩, .int .i64 0]) 3 40 Try.underlying23 hi hy0 hy1 hy2 rfl (by decide) _ _ _ rfl (O1.out.alloc _) ⟨w6.heap.size, 0, none⟩ 1 1 (grVals ⟨tp, si, un⟩) rfl rfl (cell_Gr _ ⟨tp, si, un⟩ _) (one_Gr ⟨tp, si, un⟩) (by unfold maxLen; omega) (by omega) (by simp; omega) ?_))
      intro v2 w7 ho2 hg2 hn2
      have A7 : Hid (Below Wc.heap.size Wc w7) := (A6.out.alloc z6 _).grown hg2 (by simp; omega) (fun j hj => own_base O1.out j hj)
      have O2 : Hid (World.ownsRow w7 Wc.heap.size 64 3 v2 _ _) := ho2
      have z7 : Wc.heap.size ≤ w7.heap.size := A7.out.size
      have B7 : Hid (Below b w w7) := BC.out.trans (A7.out.mono (by omega))
      clear ho2 hg2 hn2 O1 A6 y0 y1 y2
      by_cases hcl : n = cap
      · have hz0 : n - n = 0 := by omega
        have hC2 : C2 = [] := List.length_eq_zero_iff.1 (by omega)
        go_wp2_with (at_builtin; go_must (refine wpList_append_own _ rfl _ _ 23 rfl Wc.heap.size 64 i0 (.agg #[.string ⟨#[]⟩, .string ⟨#[]⟩, .int .i64 0]) 3 40 Try.underlying23 hi hy0 hy1 hy2 rfl (by decide) _ _ _ rfl O2.out ⟨g, 0, none⟩ 0 0 [] rfl rfl (by intro j u h; cases h) (by intro v h; cases h) (by unfold maxLen; omega) (by omega) z7 ?_))
        intro v3 w8 ho3 hg3 hn3
        have S8 : Hid (SliceG w8 Wc.heap.size v3 M) := HOP.out _ _ _ (by have h := ho3; rw [hz0, hC2]; simpa [grCells, List.append_assoc, hcl] using h)
        have A8 : Hid (Below Wc.heap.size Wc w8) := A7.out.grown hg3 z7 (fun j hj => own_base O2.out j hj)
        have X8 : Hid (BoxG w8 b) := XC.out.below A8.out
        have B8 : Hid (Below b w w8) := BC.out.trans (A8.out.mono (by omega))
        obtain ⟨pq, cq, hv3⟩ : ∃ pq cq, v3 = .slice pq M.length cq := by obtain ⟨⟨p, c, e, -⟩, -⟩ := S8.out; exact ⟨p, c, e⟩
        clear ho3 hg3 hn3 O2 A7 A8 HOP hl1 hl2 hz0 hcl
        generalize hm : M.length = m at *
        subst hv3
        obtain ⟨x0, x1, x2, f0, f1, f2, hltx⟩ := X8.out
        go_wp2
        refine bodyPost_ret (v := .agg #[.slice pq m cq, .bool false, .int .i64 0]) (by simp [results, Try.results58, go_sem, x0, x1, x2]) rfl ⟨_, rfl, ⟨_, by rw [HR.out], by rw [HR.out, hbb]; exact (S8.out.store3 hbc).mono (by omega)⟩, by rw [hbb]; exact store3G_below B8.out⟩
      · have k4 : ¬ (n = cap) := hcl
        go_wp2_with (at_builtin; go_must (refine wpList_append_own _ rfl _ _ 23 rfl Wc.heap.size 64 i0 (.agg #[.string ⟨#[]⟩, .string ⟨#[]⟩, .int .i64 0]) 3 40 Try.underlying23 hi hy0 hy1 hy2 rfl (by decide) _ _ _ rfl O2.out ⟨g, n * 3, none⟩ 0 (cap - n) C2 rfl (by rw [hl2, Nat.sub_self]) (HC2.out _ A7.out) o2 (by unfold maxLen; omega) (by omega) z7 ?_))
        intro v3 w8 ho3 hg3 hn3
        have S8 : Hid (SliceG w8 Wc.heap.size v3 M) := HOP.out _ _ _ (by have h := ho3; simpa [grCells, List.append_assoc] using h)
        have A8 : Hid (Below Wc.heap.size Wc w8) := A7.out.grown hg3 z7 (fun j hj => own_base O2.out j hj)
        have X8 : Hid (BoxG w8 b) := XC.out.below A8.out
        have B8 : Hid (Below b w w8) := BC.out.trans (A8.out.mono (by omega))
        obtain ⟨pq, cq, hv3⟩ : ∃ pq cq, v3 = .slice pq M.length cq := by obtain ⟨⟨p, c, e, -⟩, -⟩ := S8.out; exact ⟨p, c, e⟩
        clear ho3 hg3 hn3 O2 A7 A8 HOP hl1 hl2 k4 hcl
        generalize hm : M.length = m at *
        subst hv3
        obtain ⟨x0, x1, x2, f0, f1, f2, hltx⟩ := X8.out
        go_wp2
        refine bodyPost_ret (v := .agg #[.slice pq m cq, .bool false, .int .i64 0]) (by simp [results, Try.results58, go_sem, x0, x1, x2]) rfl ⟨_, rfl, ⟨_, by rw [HR.out], by rw [HR.out, hbb]; exact (S8.out.store3 hbc).mono (by omega)⟩, by rw [hbb]; exact store3G_below B8.out⟩
set_option maxRecDepth 10000 in
set_option maxHeartbeats 4000000 in
theorem specGrantPut_any (v : Value) (L : List Gr) (tp si : ByteArray) (now : Int) (B : Nat) (w : World) (hs : SliceG w B v L) (hn : L.length ≤ 1048576) (h1 : tp.size ≤ 1048576) (h2 : si.size ≤ 1048576) :
    Calls Try.prog 18 #[v, .string tp, .string si, .int .i64 now] w fun e w' => ∃ v', e = .returned v' ∧ AnsG w' w.heap.size v' (putG L tp si now) ∧ Below w.heap.size w w' := by
  have KB : Hid (∀ W, Below w.heap.size w W → Calls Try.prog 57 #[v, .string tp, .string si, .int .i64 now] W fun e w' => e = .returned (.int .i64 (beginG L tp si now)) ∧ Below W.heap.size W w') := fun W hb => specBegin8_any v L tp si now B W (hs.below hb) hn h1 h2
  have KP : Hid (beginG L tp si now = 0 → ∀ W, Below w.heap.size w W → Calls Try.prog 58 #[v, .string tp, .string si, .int .i64 now] W fun e w' => ∃ v', e = .returned v' ∧ AnsG w' W.heap.size v' (putR L tp si now) ∧ Below W.heap.size W w') := fun h W hb => by
    have hm := mayG_parts (beginG_ok h)
    have t := hm.2.2.2
    unfold timeG at t
    simp only [Bool.and_eq_true, decide_eq_true_eq] at t
    exact specPutR_any v L tp si now B W (hs.below hb) hm.1 t
  have HNo : Hid (¬ beginG L tp si now = 0 → putG L tp si now = noG (beginG L tp si now)) := fun h => by unfold putG; rw [if_neg h]
  have HY : Hid (beginG L tp si now = 0 → putG L tp si now = putR L tp si now) := fun h => by unfold putG; rw [if_pos h]
  clear hs
  generalize putG L tp si now = Z at *
  generalize putR L tp si now = Y at *
  generalize beginG L tp si now = c at *
  obtain ⟨W0, hW⟩ : ∃ W0, W0 = w.alloc (.cells #[.slice none 0 0, .bool false, .int .i64 0] 27) := ⟨_, rfl⟩
  have hW0 : Hid (W0 = w.alloc (.cells #[.slice none 0 0, .bool false, .int .i64 0] 27)) := hW
  have B0 : Hid (Below w.heap.size w W0) := by show Below _ _ _; rw [hW]; exact (Below.refl _ _).alloc (Nat.le_refl _) _
  have X0 : Hid (BoxG W0 w.heap.size) := by show BoxG _ _; rw [hW]; exact boxG_made w _
  have z0 : w.heap.size < W0.heap.size := by rw [hW]; simp
  clear hW
  go_enter Try.func18, Try.ntmps18
  go_upto_region 1 with fail
  rw [← hW0.out]
  clear hW0
  generalize hbb : w.heap.size = b at *
  go_wp2_with fail
  refine (KB.out _ B0.out).mono ?_
  rintro e w1 ⟨rfl, hb1⟩
  have X1 : Hid (BoxG w1 b) := X0.out.below hb1
  have B1 : Hid (Below b w w1) := B0.out.trans (hb1.mono (by omega))
  have z1 : b < w1.heap.size := Nat.lt_of_lt_of_le z0 hb1.size
  clear hb1 X0 B0
  by_cases hc : c = 0
  case neg =>
    have HR : Hid (Z = noG c) := HNo.out hc
    have q : (c != 0) = true := by rw [bne_iff_ne]; exact hc
    obtain ⟨x0, x1, x2, f0, f1, f2, hlt⟩ := X1.out
    clear hc KP HY HNo
    go_wp2
    refine bodyPost_ret (v := .agg #[.slice none 0 0, .bool false, .int .i64 c]) (by simp [results, Try.results18, go_sem, x0, x1, x2]) rfl ⟨_, rfl, ⟨_, by rw [HR.out]; rfl, by rw [HR.out]; exact sliceG_none _ _⟩, by rw [hbb]; exact store3G_below B1.out⟩
  subst hc
  have HR : Hid (Z = Y) := HY.out rfl
  have KP2 := KP.out rfl
  have KP3 : Hid (∀ W, Below b w W → Calls Try.prog 58 #[v, .string tp, .string si, .int .i64 now] W fun e w' => ∃ v', e = .returned v' ∧ AnsG w' W.heap.size v' Y ∧ Below W.heap.size W w') := KP2
  clear KP KP2 HNo HY
  go_wp2_with fail
  refine (KP3.out _ B1.out).mono ?_
  rintro e w2 ⟨v2, rfl, ⟨s2, rfl, hs2⟩, hb2⟩
  have S2 : Hid (SliceG w2 w1.heap.size s2 Y.ar) := hs2
  have B2 : Hid (Below b w w2) := B1.out.trans (hb2.mono (by omega))
  obtain ⟨x0, x1, x2, f0, f1, f2, hlt⟩ := X1.out.below hb2
  obtain ⟨pq, cq, hv2⟩ : ∃ pq cq, s2 = .slice pq Y.ar.length cq := by obtain ⟨⟨p, c, e, -⟩, -⟩ := hs2; exact ⟨p, c, e⟩
  clear hs2 hb2 X1 B1
  obtain ⟨ya, yu, yc⟩ := Y
  dsimp only at *
  generalize hm : ya.length = m at *
  subst hv2
  go_wp2
  refine bodyPost_ret (v := .agg #[.slice pq m cq, .bool yu, .int .i64 yc]) (by simp [results, Try.results18, go_sem, x0, x1, x2]) rfl ⟨_, rfl, ⟨_, by rw [HR.out], by rw [HR.out, hbb]; exact (S2.out.store3 z1).mono (by omega)⟩, by rw [hbb]; exact store3G_below B2.out⟩
end Go.Proofs.Ytecaeolgheefmaa

/- The specification's GrantPut once more: what its answer holds is an own row. Written by specput8o.py. -/
namespace Go.Proofs.Ytecaeolgheefmaa
open Go.RowKit
/-- grants in a row of their own -/
def SliceO (w : World) (B : Nat) (v : Value) (L : List Gr) : Prop := w.ownsRow B 64 3 v L.length (grCells L)
theorem SliceO.slice {w : World} {B : Nat} {v : Value} {L : List Gr} (h : SliceO w B v L) : SliceG w B v L := sliceG_of_own (t := 64) h
theorem SliceO.mono {w : World} {B B' : Nat} {v : Value} {L : List Gr} (h : SliceO w B v L) (hB : B' ≤ B) : SliceO w B' v L := World.ownsRow.mono h hB
theorem SliceO.of_block {w w' : World} {B : Nat} {v : Value} {L : List Gr} (h : SliceO w B v L) (hk : ∀ g, B ≤ g → g < w.heap.size → v.ownBlock = some g → w'.heap[g]? = w.heap[g]?) : SliceO w' B v L := by
  obtain ⟨hl, ⟨rfl, h0⟩ | ⟨g, cap, cur, rfl, hb, hg, hr⟩⟩ := h
  · exact ⟨hl, .inl ⟨rfl, h0⟩⟩
  · refine ⟨hl, .inr ⟨g, cap, cur, rfl, hb, ?_, hr⟩⟩
    rw [hk g hb (Array.getElem?_eq_some_iff.1 hg).1 rfl]; exact hg
theorem SliceO.below {w w' : World} {B : Nat} {v : Value} {L : List Gr} (h : SliceO w B v L) (hb : Below w.heap.size w w') : SliceO w' B v L := h.of_block fun g _ hg _ => hb.block g hg
theorem SliceO.grown {w w' : World} {B r : Nat} {v : Value} {L : List Gr} (h : SliceO w B v L) (hg : w.grownBy w' (some r)) (hr : r < B) : SliceO w' B v L := h.of_block fun g h1 h2 _ => hg.block g h2 (fun e => by have := Option.some.inj e; omega)
theorem SliceO.store3 {W : World} {b B : Nat} {v x y z : Value} {L : List Gr} (h : SliceO W B v L) (hb : b < B) : SliceO (((W.setCell ⟨b, 0, none⟩ x).setCell ⟨b, 1, none⟩ y).setCell ⟨b, 2, none⟩ z) B v L := by
  refine h.of_block fun g h1 _ _ => ?_
  simp only [World.setCell, Array.getElem?_modify]
  rw [if_neg (by omega), if_neg (by omega), if_neg (by omega)]
theorem sliceO_none (w : World) (B : Nat) : SliceO w B (.slice none 0 0) [] := ⟨rfl, .inl ⟨rfl, rfl⟩⟩
theorem own_putO {W : World} {B k : Nat} {v : Value} {L : List Gr} {x : Gr} (hk : k ≤ L.length) (h : W.ownsRow B 64 3 v (k + 1 + (L.length - k)) (grCells (L.take k) ++ (grVals x ++ grCells (L.drop k)))) : SliceO W B v (L.take k ++ x :: L.drop k) := by
  unfold SliceO
  rw [grCells_app, List.length_append, List.length_take, List.length_cons, List.length_drop, show min k L.length = k by omega, show k + (L.length - k + 1) = k + 1 + (L.length - k) by omega]
  exact h
def AnsO (w : World) (B : Nat) (v : Value) (x : GO) : Prop := ∃ s, v = .agg #[s, .bool x.us, .int .i64 x.co] ∧ SliceO w B s x.ar
set_option maxRecDepth 10000 in
set_option maxHeartbeats 16000000 in
theorem specPutRO_any (v : Value) (L : List Gr) (tp si : ByteArray) (now : Int) (B : Nat) (w : World) (hs : SliceG w B v L) (hg8 : grantsB L = true) (hnow : 0 ≤ now ∧ now ≤ 1000000) :
    Calls Try.prog 58 #[v, .string tp, .string si, .int .i64 now] w fun e w' => ∃ v', e = .returned v' ∧ AnsO w' w.heap.size v' (putR L tp si now) ∧ Below w.heap.size w w' := by
  have hL8 := (grantsB_parts hg8).1
  have hrl := restG_len L tp si now
  have KO : Hid (∀ W, Below w.heap.size w W → Calls Try.prog 64 #[v, .int .i64 now] W fun e w' => ∃ v', e = .returned v' ∧ SliceG w' W.heap.size v' (L.filter (liveG now)) ∧ Below W.heap.size W w') := fun W hb => specOld8_any v L now B W (hs.below hb) (by omega)
  have KD : Hid (∀ (u : Value) (B : Nat) (W : World), SliceG W B u (L.filter (liveG now)) → Calls Try.prog 62 #[u, .string tp, .string si] W fun e w' => ∃ v', e = .returned v' ∧ (SliceG w' W.heap.size v' (restG L tp si now) ∧ ∃ g m c, v' = .slice (some ⟨g, 0, none⟩) m c) ∧ Below W.heap.size W w') := fun u B W s => specDrop8_anyS u _ tp si B W s (by have := filter_len8 (liveG now) hg8; omega)
  have KMn : Hid (∀ W, Calls Try.prog 84 #[.int .i64 1000000, .int .i64 (now + 30)] W fun e w' => e = .returned (.int .i64 (untilG now)) ∧ w' = W) := fun W => by
    have e : untilG now = if 1000000 < now + 30 then 1000000 else now + 30 := by
      unfold untilG
      by_cases hc : now + 30 ≤ 1000000
      · rw [if_pos hc, if_neg (by omega)]
      · rw [if_neg hc, if_pos (by omega)]
    rw [e]
    exact specMin8_any 1000000 (now + 30) W
  have HRr : RiseG (restG L tp si now) := rise_filterG (rise_filterG (grants_rise hg8) _) _
  have HAp := rest_apart (L := L) (tp := tp) (si := si) (now := now) (un := untilG now)
  have HN9 : Hid (¬ (restG L tp si now).length < 8 → putR L tp si now = noG 9) := fun h => by unfold putR; rw [if_neg h]
  have HY : Hid ((restG L tp si now).length < 8 → putR L tp si now = ⟨insG (restG L tp si now) ⟨tp, si, untilG now⟩, false, 0⟩) := fun h => by unfold putR; rw [if_pos h]; rfl
  clear hs hg8
  generalize putR L tp si now = Z at *
  generalize L.filter (liveG now) = Y0 at *
  generalize restG L tp si now = Y at *
  generalize untilG now = un at *
  have HCut : Hid (∀ k, k ≤ Y.length → (∀ j, j < k → grLess (atG Y j) ⟨tp, si, un⟩ = true) → (k < Y.length → grLess (atG Y k) ⟨tp, si, un⟩ = false) → insG Y ⟨tp, si, un⟩ = Y.take k ++ ⟨tp, si, un⟩ :: Y.drop k) := fun k hk hb he => by
    refine ins_cut hk hb (fun j hj hjl => ?_)
    have hk2 : grLess ⟨tp, si, un⟩ (atG Y k) = true := by
      have hkl : k < Y.length := by omega
      rcases HAp (atG Y k) (by rw [atG_get hkl]; exact List.getElem_mem hkl) with h | h
      · rw [he hkl] at h; cases h
      · exact h
    by_cases e : j = k
    · subst e; exact hk2
    · exact grLess_trans hk2 (riseG_at HRr (by omega) hjl)
  clear HAp
  obtain ⟨i0, hi, hy0, hy1, hy2⟩ := info_parts infoGrant
  obtain ⟨W0, hW⟩ : ∃ W0, W0 = w.alloc (.cells #[.slice none 0 0, .bool false, .int .i64 0] 27) := ⟨_, rfl⟩
  have hW0 : Hid (W0 = w.alloc (.cells #[.slice none 0 0, .bool false, .int .i64 0] 27)) := hW
  have B0 : Hid (Below w.heap.size w W0) := by show Below _ _ _; rw [hW]; exact (Below.refl _ _).alloc (Nat.le_refl _) _
  have X0 : Hid (BoxG W0 w.heap.size) := by show BoxG _ _; rw [hW]; exact boxG_made w _
  have z0 : w.heap.size < W0.heap.size := by rw [hW]; simp
  clear hW
  go_enter Try.func58, Try.ntmps58
  go_upto_region 1 with fail
  rw [← hW0.out]
  clear hW0
  generalize hbb : w.heap.size = b at *
  go_wp2_with fail
  refine (KO.out _ B0.out).mono ?_
  rintro e w1 ⟨u1, rfl, hs1, hb1⟩
  have S1 : Hid (SliceG w1 W0.heap.size u1 Y0) := hs1
  have X1 : Hid (BoxG w1 b) := X0.out.below hb1
  have B1 : Hid (Below b w w1) := B0.out.trans (hb1.mono (by omega))
  have z1 : b < w1.heap.size := Nat.lt_of_lt_of_le z0 hb1.size
  clear hs1 hb1 X0 B0 KO
  go_wp2_with fail
  refine (KD.out _ _ _ S1.out).mono ?_
  rintro e w2 ⟨u2, rfl, ⟨hs2, g, mm, cap, rfl⟩, hb2⟩
  obtain ⟨⟨q, cap', e1, hg⟩, q2, cap2, e2, hcap, -⟩ := hs2
  injection e1 with e1a e1b e1c
  injection e2 with e2a _ e2c
  subst e1a e1b e1c e2a e2c
  have X2 : Hid (BoxG w2 b) := X1.out.below hb2
  have B2 : Hid (Below b w w2) := B1.out.trans (hb2.mono (by omega))
  have z2 : b < w2.heap.size := Nat.lt_of_lt_of_le z1 hb2.size
  have HG : Hid (0 < Y.length → g < w2.heap.size ∧ ∀ j, j < Y.length → ∀ o, o < 3 → w2.cell? ⟨g, j * 3 + o, none⟩ = some (grC (atG Y j) o)) := fun h0 => by
    obtain ⟨g', e, -, h1, h2⟩ := hg h0
    injection e with e
    injection e with e
    subst e
    exact ⟨h1, fun j hj o ho => (h2 j hj o ho).1⟩
  clear hg hb2 S1 X1 B1 KD HRr
  by_cases h8 : Y.length < 8
  case neg =>
    have HR : Hid (Z = noG 9) := HN9.out h8
    have q8 : decide ((8 : Int) ≤ (Y.length : Int)) = true := by rw [decide_eq_true_iff]; omega
    obtain ⟨x0, x1, x2, f0, f1, f2, hlt⟩ := X2.out
    go_wp2
    refine bodyPost_ret (v := .agg #[.slice none 0 0, .bool false, .int .i64 9]) (by simp [results, Try.results58, go_sem, x0, x1, x2]) rfl ⟨_, rfl, ⟨_, by rw [HR.out]; rfl, by rw [HR.out]; exact sliceO_none _ _⟩, by rw [hbb]; exact store3G_below B2.out⟩
  have HR : Hid (Z = ⟨insG Y ⟨tp, si, un⟩, false, 0⟩) := HY.out h8
  have q8 : decide ((8 : Int) ≤ (Y.length : Int)) = false := by rw [decide_eq_false_iff_not]; omega
  have hwr : IntKind.i64.wrap (now + 30) = now + 30 := by rw [IntKind.wrap_i64]; omega
  clear HN9 HY
  go_wp2_with fail
  refine (KMn.out _).mono ?_
  rintro e w3 ⟨rfl, rfl⟩
  obtain ⟨W4, hV⟩ : ∃ W4, W4 = w3.alloc (.cells #[.string tp, .string si, .int .i64 un] 64) := ⟨_, rfl⟩
  have hW4 : Hid (W4 = w3.alloc (.cells #[.string tp, .string si, .int .i64 un] 64)) := hV
  have A4 : Below w3.heap.size w3 W4 := by rw [hV]; exact (Below.refl _ _).alloc (Nat.le_refl _) _
  have X4 : Hid (BoxG W4 b) := X2.out.below A4
  have B4 : Hid (Below b w W4) := B2.out.trans (A4.mono (by omega))
  have u0 : W4.cell? ⟨w3.heap.size, 0, none⟩ = some (.string tp) := by rw [hV]; simp
  have u1 : W4.cell? ⟨w3.heap.size, 1, none⟩ = some (.string si) := by rw [hV]; simp
  have u2 : W4.cell? ⟨w3.heap.size, 2, none⟩ = some (.int .i64 un) := by rw [hV]; simp
  have U0 : Hid (W4.cell? ⟨w3.heap.size, 0, none⟩ = some (.string tp) ∧ W4.cell? ⟨w3.heap.size, 1, none⟩ = some (.string si) ∧ W4.cell? ⟨w3.heap.size, 2, none⟩ = some (.int .i64 un)) := ⟨u0, u1, u2⟩
  have hx0 : w3.heap.size < W4.heap.size := by rw [hV]; simp
  have HG4 : Hid (0 < Y.length → g < W4.heap.size ∧ ∀ j, j < Y.length → ∀ o, o < 3 → W4.cell? ⟨g, j * 3 + o, none⟩ = some (grC (atG Y j) o)) := fun h0 => by
    obtain ⟨h1, h2⟩ := HG.out h0
    exact ⟨Nat.lt_trans h1 hx0, fun j hj o ho => ((bcell A4).1 _ _ h1).trans (h2 j hj o ho)⟩
  have hbx : b < w3.heap.size := z2
  clear hV A4 X2 B2 u0 u1 u2 HG KMn
  go_upto_region 5 with fail
  rw [← hW4.out]
  clear hW4
  generalize hbxx : w3.heap.size = bx at *
  clear hbxx
  have HOP : Hid (∀ k (W : World) (B : Nat) (v : Value), k ≤ Y.length → W.ownsRow B 64 3 v (k + 1 + (Y.length - k)) (grCells (Y.take k) ++ (grVals ⟨tp, si, un⟩ ++ grCells (Y.drop k))) → insG Y ⟨tp, si, un⟩ = Y.take k ++ ⟨tp, si, un⟩ :: Y.drop k → SliceO W B v (insG Y ⟨tp, si, un⟩)) := fun k W B v hk h e => by rw [e]; exact own_putO hk h
  have KL : Hid (∀ j W, Calls Try.prog 68 #[.agg #[.string (atG Y j).tp, .string (atG Y j).si, .int .i64 (atG Y j).un], .agg #[.string tp, .string si, .int .i64 un]] W fun e w' => e = .returned (.bool (grLess (atG Y j) ⟨tp, si, un⟩)) ∧ Below W.heap.size W w') := fun j W => specLess8_any (atG Y j) ⟨tp, si, un⟩ W
  go_wp2
  go_loopw [11] (fun i wr => ∃ k : Nat, k ≤ Y.length ∧ i = .int .i64 k ∧ Hid (∀ j, j < k → grLess (atG Y j) ⟨tp, si, un⟩ = true) ∧ Hid (Below W4.heap.size W4 wr)) (fun i _ => Y.length - (intOf i).toNat)
  case atStart => exact ⟨0, Nat.zero_le _, rfl, fun j hj => absurd hj (by omega), Below.refl _ _⟩
  case round =>
    obtain ⟨k, hk, rfl, HM, HB⟩ := hrel
    have hxr : bx < wr.heap.size := Nat.lt_of_lt_of_le hx0 HB.out.size
    have xr0 : wr.cell? ⟨bx, 0, none⟩ = some (.string tp) := ((bcell HB.out).1 _ _ hx0).trans U0.out.1
    have xr1 : wr.cell? ⟨bx, 1, none⟩ = some (.string si) := ((bcell HB.out).1 _ _ hx0).trans U0.out.2.1
    have xr2 : wr.cell? ⟨bx, 2, none⟩ = some (.int .i64 un) := ((bcell HB.out).1 _ _ hx0).trans U0.out.2.2
    have BR : Hid (Below b w wr) := B4.out.trans (HB.out.mono (by omega))
    have hcW : ∀ W, Below W4.heap.size W4 W → ∀ j, j < Y.length → ∀ o, o < 3 → W.cell? ⟨g, j * 3 + o, none⟩ = some (grC (atG Y j) o) := fun W hb j hj o ho => by
      obtain ⟨h1, h2⟩ := HG4.out (by omega)
      exact ((bcell hb).1 _ _ h1).trans (h2 j hj o ho)
    have HC1a : Hid (∀ W, Below W4.heap.size W4 W → ∀ j u, (grCells (Y.take k))[j]? = some u → W.cell? ((⟨g, 0, none⟩ : Addr).add j) = some u) := fun W hb => by
      have := grCells_part (hcW W hb) 0 (Y.take k) (take_atG (by omega))
      simpa using this
    have HC2a : Hid (∀ W, Below W4.heap.size W4 W → ∀ j u, (grCells (Y.drop k))[j]? = some u → W.cell? ((⟨g, k * 3, none⟩ : Addr).add j) = some u) := fun W hb => grCells_part (hcW W hb) k (Y.drop k) (drop_atG Y k)
    have hl1 : (grCells (Y.take k)).length = k * 3 := by rw [grCells_len, List.length_take]; omega
    have hl2 : (grCells (Y.drop k)).length = (Y.length - k) * 3 := by rw [grCells_len, List.length_drop]
    have o1 : ∀ v ∈ grCells (Y.take k), v.oneCell' = true := one_grCells _
    have o2 : ∀ v ∈ grCells (Y.drop k), v.oneCell' = true := one_grCells _
    have HOPk := HOP.out k
    have HCk := HCut.out k hk HM.out
    by_cases hlt : k < Y.length
    · have hgr : g < wr.heap.size := Nat.lt_of_lt_of_le (HG4.out (by omega)).1 HB.out.size
      have c0 : wr.cell? ⟨g, k * 3, none⟩ = some (.string (atG Y k).tp) := hcW _ HB.out k hlt 0 (by omega)
      have c1 : wr.cell? ⟨g, k * 3 + 1, none⟩ = some (.string (atG Y k).si) := hcW _ HB.out k hlt 1 (by omega)
      have c2 : wr.cell? ⟨g, k * 3 + 2, none⟩ = some (.int .i64 (atG Y k).un) := hcW _ HB.out k hlt 2 (by omega)
      have KL1 := KL.out k
      have k0 : (0 : Int) ≤ k := by omega
      have k1 : (k : Int) < Y.length := by omega
      have q1 : decide ((k : Int) < (Y.length : Int)) = true := by rw [decide_eq_true_iff]; omega
      have HM1 : Hid (grLess (atG Y k) ⟨tp, si, un⟩ = true → ∀ j, j < k + 1 → grLess (atG Y j) ⟨tp, si, un⟩ = true) := fun h j hj => by
        by_cases e : j = k
        · subst e; exact h
        · exact HM.out j (by omega)
      have HCk1 : Hid (grLess (atG Y k) ⟨tp, si, un⟩ = false → insG Y ⟨tp, si, un⟩ = Y.take k ++ ⟨tp, si, un⟩ :: Y.drop k) := fun h => HCk (fun _ => h)
      clear hcW KL HCk HCut HOP
      generalize hls : grLess (atG Y k) ⟨tp, si, un⟩ = ls at *
      clear hls
      generalize atG Y k = y at *
      obtain ⟨ke, na, va⟩ := y
      dsimp only at *
      cases ls with
      | true =>
        have HM2 : Hid (∀ j, j < k + 1 → grLess (atG Y j) ⟨tp, si, un⟩ = true) := HM1.out rfl
        have KL1 : Hid (∀ W, Calls Try.prog 68 #[.agg #[.string ke, .string na, .int .i64 va], .agg #[.string tp, .string si, .int .i64 un]] W fun e w' => e = .returned (.bool true) ∧ Below W.heap.size W w') := KL1
        clear HM1 HM HC1a HC2a hl1 hl2 o1 o2 HOPk HCk1
        go_upto_region 6 with fail
        refine wp_region_held_drew (S := (fun w' => w'.cell? ⟨g, k * 3, none⟩ = some (.string ke) ∧ w'.cell? ⟨g, k * 3 + 1, none⟩ = some (.string na) ∧ w'.cell? ⟨g, k * 3 + 2, none⟩ = some (.int .i64 va) ∧ w'.cell? ⟨bx, 0, none⟩ = some (.string tp) ∧ w'.cell? ⟨bx, 1, none⟩ = some (.string si) ∧ w'.cell? ⟨bx, 2, none⟩ = some (.int .i64 un))) (by kernel_rfl) ?_ (fun hH0 => ?_)
        · (try dsimp only)
          go_keep
        refine wpAnyH_take (i := 0) (oi := { dst := some 29, op := Op.move (Operand.tmp 11), type := 3, pos := "l08_grant.go:76", after := #[], guard := none }) (v := ?va0) rfl (by kernel_rfl) (by kernel_rfl) (by kernel_rfl) (fun _ _ _ h => h) (Or.inl ⟨by rfl, ?hya0⟩) (by assumption) ?resta0
        case hya0 =>
          intro w hSw
          (try dsimp only at hSw)
          go_simp
          try with_reducible rfl
        try simp only [Act.put, List.setIfInBounds_toArray, List.set_cons_zero, List.set_cons_succ]
        refine wpAnyH_take (i := 1) (oi := { dst := some 30, op := Op.move (Operand.tmp 9), type := 23, pos := "l08_grant.go:76", after := #[], guard := none }) (v := ?va1) rfl (by kernel_rfl) (by kernel_rfl) (by kernel_rfl) (fun _ _ _ h => h) (Or.inl ⟨by rfl, ?hya1⟩) (by assumption) ?resta1
        case hya1 =>
          intro w hSw
          (try dsimp only at hSw)
          go_simp
          try with_reducible rfl
        try simp only [Act.put, List.setIfInBounds_toArray, List.set_cons_zero, List.set_cons_succ]
        refine wpAnyH_take (i := 2) (oi := { dst := some 31, op := Op.call { callee := Callee.builtin Builtin.len, args := #[Operand.tmp 30], argTypes := #[23] }, type := 3, pos := "l08_grant.go:76", after := #[{ on := 1, ground := Ground.data }], guard := none }) (v := ?va2) rfl (by kernel_rfl) (by kernel_rfl) (by kernel_rfl) (fun _ _ _ h => h) (Or.inl ⟨by rfl, ?hya2⟩) (by assumption) ?resta2
        case hya2 =>
          intro w hSw
          (try dsimp only at hSw)
          go_simp
          try with_reducible rfl
        try simp only [Act.put, List.setIfInBounds_toArray, List.set_cons_zero, List.set_cons_succ]
        refine wpAnyH_take (i := 3) (oi := { dst := some 32, op := Op.binOp BinOp.lss 3 (Operand.tmp 29) (Operand.tmp 31) 3, type := 4, pos := "l08_grant.go:76", after := #[{ on := 0, ground := Ground.data }, { on := 2, ground := Ground.data }], guard := none }) (v := ?va3) rfl (by kernel_rfl) (by kernel_rfl) (by kernel_rfl) (fun _ _ _ h => h) (Or.inl ⟨by rfl, ?hya3⟩) (by assumption) ?resta3
        case hya3 =>
          intro w hSw
          (try dsimp only at hSw)
          go_simp
          try with_reducible rfl
        try simp only [Act.put, List.setIfInBounds_toArray, List.set_cons_zero, List.set_cons_succ]
        refine wpAnyH_take (i := 4) (oi := { dst := some 33, op := Op.move (Operand.tmp 32), type := 4, pos := "l08_grant.go:76", after := #[{ on := 3, ground := Ground.data }], guard := none }) (v := ?va4) rfl (by kernel_rfl) (by kernel_rfl) (by kernel_rfl) (fun _ _ _ h => h) (Or.inl ⟨by rfl, ?hya4⟩) (by assumption) ?resta4
        case hya4 =>
          intro w hSw
          (try dsimp only at hSw)
          go_simp
          try with_reducible rfl
        try simp only [Act.put, List.setIfInBounds_toArray, List.set_cons_zero, List.set_cons_succ]
        refine wpAnyH_take (i := 5) (oi := { dst := some 34, op := Op.move (Operand.tmp 9), type := 23, pos := "l08_grant.go:76", after := #[{ on := 4, ground := Ground.guard }], guard := some (4, true) }) (v := ?va5) rfl (by kernel_rfl) (by kernel_rfl) (by kernel_rfl) (fun _ _ _ h => h) (Or.inl ⟨by rfl, ?hya5⟩) (by assumption) ?resta5
        case hya5 =>
          intro w hSw
          (try dsimp only at hSw)
          go_simp
          try with_reducible rfl
        try simp only [Act.put, List.setIfInBounds_toArray, List.set_cons_zero, List.set_cons_succ]
        refine wpAnyH_take (i := 6) (oi := { dst := some 35, op := Op.move (Operand.tmp 11), type := 3, pos := "l08_grant.go:76", after := #[{ on := 4, ground := Ground.guard }], guard := some (4, true) }) (v := ?va6) rfl (by kernel_rfl) (by kernel_rfl) (by kernel_rfl) (fun _ _ _ h => h) (Or.inl ⟨by rfl, ?hya6⟩) (by assumption) ?resta6
        case hya6 =>
          intro w hSw
          (try dsimp only at hSw)
          go_simp
          try with_reducible rfl
        try simp only [Act.put, List.setIfInBounds_toArray, List.set_cons_zero, List.set_cons_succ]
        refine wpAnyH_take (i := 7) (oi := { dst := some 36, op := Op.indexAddr 23 (Operand.tmp 34) (Operand.tmp 35), type := 0, pos := "l08_grant.go:76", after := #[{ on := 5, ground := Ground.data }, { on := 6, ground := Ground.data }, { on := 4, ground := Ground.guard }], guard := some (4, true) }) (v := ?va7) rfl (by kernel_rfl) (by kernel_rfl) (by kernel_rfl) (fun _ _ _ h => h) (Or.inl ⟨by rfl, ?hya7⟩) (by assumption) ?resta7
        case hya7 =>
          intro w hSw
          (try dsimp only at hSw)
          go_simp
          try with_reducible rfl
        try simp only [Act.put, List.setIfInBounds_toArray, List.set_cons_zero, List.set_cons_succ]
        refine wpAnyH_take (i := 8) (oi := { dst := some 37, op := Op.load 64 (Operand.tmp 36), type := 64, pos := "l08_grant.go:76", after := #[{ on := 7, ground := Ground.data }, { on := 4, ground := Ground.guard }], guard := some (4, true) }) (v := ?va8) rfl (by kernel_rfl) (by kernel_rfl) (by kernel_rfl) (fun _ _ _ h => h) (Or.inl ⟨by rfl, ?hya8⟩) (by assumption) ?resta8
        case hya8 =>
          intro w hSw
          (try dsimp only at hSw)
          go_simp
          try with_reducible rfl
        try simp only [Act.put, List.setIfInBounds_toArray, List.set_cons_zero, List.set_cons_succ]
        refine wpAnyH_take (i := 9) (oi := { dst := some 38, op := Op.load 64 (Operand.tmp 10), type := 64, pos := "l08_grant.go:76", after := #[{ on := 4, ground := Ground.guard }], guard := some (4, true) }) (v := ?va9) rfl (by kernel_rfl) (by kernel_rfl) (by kernel_rfl) (fun _ _ _ h => h) (Or.inl ⟨by rfl, ?hya9⟩) (by assumption) ?resta9
        case hya9 =>
          intro w hSw
          (try dsimp only at hSw)
          go_simp
          try with_reducible rfl
        try simp only [Act.put, List.setIfInBounds_toArray, List.set_cons_zero, List.set_cons_succ]
        refine wpAnyH_ready (rs := [10]) (by kernel_rfl) (by simp) ?_
        refine AllReadyH.cons (o := { dst := some 39, op := Op.call { callee := Callee.value (Operand.func 68), args := #[Operand.tmp 37, Operand.tmp 38], argTypes := #[64, 64] }, type := 4, pos := "l08_grant.go:76", after := #[{ on := 8, ground := Ground.data }, { on := 9, ground := Ground.data }, { on := 4, ground := Ground.chain }, { on := 4, ground := Ground.guard }], guard := some (4, true) }) rfl (fun K hK => ?_) AllReadyH.nil
        go_simp
        (go_at_call 68; refine (KL1.out _).mono ?_; rintro e w5 ⟨rfl, hb5⟩; have A5 : Below wr.heap.size wr w5 := (Below.drew (Below.refl _ _)).trans hb5; have d0 : w5.cell? ⟨g, k * 3, none⟩ = some (.string ke) := ((bcell A5).1 _ _ hgr).trans c0; have d1 : w5.cell? ⟨g, k * 3 + 1, none⟩ = some (.string na) := ((bcell A5).1 _ _ hgr).trans c1; have d2 : w5.cell? ⟨g, k * 3 + 2, none⟩ = some (.int .i64 va) := ((bcell A5).1 _ _ hgr).trans c2; have xc0 : w5.cell? ⟨bx, 0, none⟩ = some (.string tp) := ((bcell A5).1 _ _ hxr).trans xr0; have xc1 : w5.cell? ⟨bx, 1, none⟩ = some (.string si) := ((bcell A5).1 _ _ hxr).trans xr1; have xc2 : w5.cell? ⟨bx, 2, none⟩ = some (.int .i64 un) := ((bcell A5).1 _ _ hxr).trans xr2)
        try (go_wp2_with fail)
        refine hK.out _ _ ?_ (fun hH1 => ?_)
        · (try dsimp only)
          first | go_keep | (refine ⟨?_, ?_, ?_, ?_, ?_, ?_⟩ <;> assumption)
        clear hK K hH0
        try simp only [Act.put, List.setIfInBounds_toArray, List.set_cons_zero, List.set_cons_succ]
        refine wpAnyH_take (i := 11) (oi := { dst := some 40, op := Op.pick (Operand.tmp 33) (Operand.tmp 39) (Operand.const (Value.bool false)), type := 4, pos := "l08_grant.go:76", after := #[{ on := 4, ground := Ground.data }, { on := 10, ground := Ground.data }], guard := none }) (v := ?va11) rfl (by kernel_rfl) (by kernel_rfl) (by kernel_rfl) (fun _ _ _ h => h) (Or.inl ⟨by rfl, ?hya11⟩) (by assumption) ?resta11
        case hya11 =>
          intro w hSw
          (try dsimp only at hSw)
          go_simp
          try with_reducible rfl
        try simp only [Act.put, List.setIfInBounds_toArray, List.set_cons_zero, List.set_cons_succ]
        refine wpAnyH_done (by kernel_rfl) ?_ _
        all_goals go_wp2
        have BN : Hid (Below W4.heap.size W4 w5) := HB.out.trans (A5.mono HB.out.size)
        go_roundw
        case rel => exact ⟨k + 1, by omega, by go_num, HM2, BN⟩
        case measure => simp [intOf]; omega
      | false =>
        have KL1 : Hid (∀ W, Calls Try.prog 68 #[.agg #[.string ke, .string na, .int .i64 va], .agg #[.string tp, .string si, .int .i64 un]] W fun e w' => e = .returned (.bool false) ∧ Below W.heap.size W w') := KL1
        have hE := HCk1.out rfl
        have HOP : Hid (∀ (W : World) (B : Nat) (v : Value), W.ownsRow B 64 3 v (k + 1 + (Y.length - k)) (grCells (Y.take k) ++ (grVals ⟨tp, si, un⟩ ++ grCells (Y.drop k))) → SliceO W B v (insG Y ⟨tp, si, un⟩)) := fun W B v h => HOPk W B v hk h hE
        clear HM1 HM HOPk HCk1 hE
        go_upto_region 6 with fail
        refine wp_region_held_drew (S := (fun w' => w'.cell? ⟨g, k * 3, none⟩ = some (.string ke) ∧ w'.cell? ⟨g, k * 3 + 1, none⟩ = some (.string na) ∧ w'.cell? ⟨g, k * 3 + 2, none⟩ = some (.int .i64 va) ∧ w'.cell? ⟨bx, 0, none⟩ = some (.string tp) ∧ w'.cell? ⟨bx, 1, none⟩ = some (.string si) ∧ w'.cell? ⟨bx, 2, none⟩ = some (.int .i64 un))) (by kernel_rfl) ?_ (fun hH0 => ?_)
        · (try dsimp only)
          go_keep
        refine wpAnyH_take (i := 0) (oi := { dst := some 29, op := Op.move (Operand.tmp 11), type := 3, pos := "l08_grant.go:76", after := #[], guard := none }) (v := ?vb0) rfl (by kernel_rfl) (by kernel_rfl) (by kernel_rfl) (fun _ _ _ h => h) (Or.inl ⟨by rfl, ?hyb0⟩) (by assumption) ?restb0
        case hyb0 =>
          intro w hSw
          (try dsimp only at hSw)
          go_simp
          try with_reducible rfl
        try simp only [Act.put, List.setIfInBounds_toArray, List.set_cons_zero, List.set_cons_succ]
        refine wpAnyH_take (i := 1) (oi := { dst := some 30, op := Op.move (Operand.tmp 9), type := 23, pos := "l08_grant.go:76", after := #[], guard := none }) (v := ?vb1) rfl (by kernel_rfl) (by kernel_rfl) (by kernel_rfl) (fun _ _ _ h => h) (Or.inl ⟨by rfl, ?hyb1⟩) (by assumption) ?restb1
        case hyb1 =>
          intro w hSw
          (try dsimp only at hSw)
          go_simp
          try with_reducible rfl
        try simp only [Act.put, List.setIfInBounds_toArray, List.set_cons_zero, List.set_cons_succ]
        refine wpAnyH_take (i := 2) (oi := { dst := some 31, op := Op.call { callee := Callee.builtin Builtin.len, args := #[Operand.tmp 30], argTypes := #[23] }, type := 3, pos := "l08_grant.go:76", after := #[{ on := 1, ground := Ground.data }], guard := none }) (v := ?vb2) rfl (by kernel_rfl) (by kernel_rfl) (by kernel_rfl) (fun _ _ _ h => h) (Or.inl ⟨by rfl, ?hyb2⟩) (by assumption) ?restb2
        case hyb2 =>
          intro w hSw
          (try dsimp only at hSw)
          go_simp
          try with_reducible rfl
        try simp only [Act.put, List.setIfInBounds_toArray, List.set_cons_zero, List.set_cons_succ]
        refine wpAnyH_take (i := 3) (oi := { dst := some 32, op := Op.binOp BinOp.lss 3 (Operand.tmp 29) (Operand.tmp 31) 3, type := 4, pos := "l08_grant.go:76", after := #[{ on := 0, ground := Ground.data }, { on := 2, ground := Ground.data }], guard := none }) (v := ?vb3) rfl (by kernel_rfl) (by kernel_rfl) (by kernel_rfl) (fun _ _ _ h => h) (Or.inl ⟨by rfl, ?hyb3⟩) (by assumption) ?restb3
        case hyb3 =>
          intro w hSw
          (try dsimp only at hSw)
          go_simp
          try with_reducible rfl
        try simp only [Act.put, List.setIfInBounds_toArray, List.set_cons_zero, List.set_cons_succ]
        refine wpAnyH_take (i := 4) (oi := { dst := some 33, op := Op.move (Operand.tmp 32), type := 4, pos := "l08_grant.go:76", after := #[{ on := 3, ground := Ground.data }], guard := none }) (v := ?vb4) rfl (by kernel_rfl) (by kernel_rfl) (by kernel_rfl) (fun _ _ _ h => h) (Or.inl ⟨by rfl, ?hyb4⟩) (by assumption) ?restb4
        case hyb4 =>
          intro w hSw
          (try dsimp only at hSw)
          go_simp
          try with_reducible rfl
        try simp only [Act.put, List.setIfInBounds_toArray, List.set_cons_zero, List.set_cons_succ]
        refine wpAnyH_take (i := 5) (oi := { dst := some 34, op := Op.move (Operand.tmp 9), type := 23, pos := "l08_grant.go:76", after := #[{ on := 4, ground := Ground.guard }], guard := some (4, true) }) (v := ?vb5) rfl (by kernel_rfl) (by kernel_rfl) (by kernel_rfl) (fun _ _ _ h => h) (Or.inl ⟨by rfl, ?hyb5⟩) (by assumption) ?restb5
        case hyb5 =>
          intro w hSw
          (try dsimp only at hSw)
          go_simp
          try with_reducible rfl
        try simp only [Act.put, List.setIfInBounds_toArray, List.set_cons_zero, List.set_cons_succ]
        refine wpAnyH_take (i := 6) (oi := { dst := some 35, op := Op.move (Operand.tmp 11), type := 3, pos := "l08_grant.go:76", after := #[{ on := 4, ground := Ground.guard }], guard := some (4, true) }) (v := ?vb6) rfl (by kernel_rfl) (by kernel_rfl) (by kernel_rfl) (fun _ _ _ h => h) (Or.inl ⟨by rfl, ?hyb6⟩) (by assumption) ?restb6
        case hyb6 =>
          intro w hSw
          (try dsimp only at hSw)
          go_simp
          try with_reducible rfl
        try simp only [Act.put, List.setIfInBounds_toArray, List.set_cons_zero, List.set_cons_succ]
        refine wpAnyH_take (i := 7) (oi := { dst := some 36, op := Op.indexAddr 23 (Operand.tmp 34) (Operand.tmp 35), type := 0, pos := "l08_grant.go:76", after := #[{ on := 5, ground := Ground.data }, { on := 6, ground := Ground.data }, { on := 4, ground := Ground.guard }], guard := some (4, true) }) (v := ?vb7) rfl (by kernel_rfl) (by kernel_rfl) (by kernel_rfl) (fun _ _ _ h => h) (Or.inl ⟨by rfl, ?hyb7⟩) (by assumption) ?restb7
        case hyb7 =>
          intro w hSw
          (try dsimp only at hSw)
          go_simp
          try with_reducible rfl
        try simp only [Act.put, List.setIfInBounds_toArray, List.set_cons_zero, List.set_cons_succ]
        refine wpAnyH_take (i := 8) (oi := { dst := some 37, op := Op.load 64 (Operand.tmp 36), type := 64, pos := "l08_grant.go:76", after := #[{ on := 7, ground := Ground.data }, { on := 4, ground := Ground.guard }], guard := some (4, true) }) (v := ?vb8) rfl (by kernel_rfl) (by kernel_rfl) (by kernel_rfl) (fun _ _ _ h => h) (Or.inl ⟨by rfl, ?hyb8⟩) (by assumption) ?restb8
        case hyb8 =>
          intro w hSw
          (try dsimp only at hSw)
          go_simp
          try with_reducible rfl
        try simp only [Act.put, List.setIfInBounds_toArray, List.set_cons_zero, List.set_cons_succ]
        refine wpAnyH_take (i := 9) (oi := { dst := some 38, op := Op.load 64 (Operand.tmp 10), type := 64, pos := "l08_grant.go:76", after := #[{ on := 4, ground := Ground.guard }], guard := some (4, true) }) (v := ?vb9) rfl (by kernel_rfl) (by kernel_rfl) (by kernel_rfl) (fun _ _ _ h => h) (Or.inl ⟨by rfl, ?hyb9⟩) (by assumption) ?restb9
        case hyb9 =>
          intro w hSw
          (try dsimp only at hSw)
          go_simp
          try with_reducible rfl
        try simp only [Act.put, List.setIfInBounds_toArray, List.set_cons_zero, List.set_cons_succ]
        refine wpAnyH_ready (rs := [10]) (by kernel_rfl) (by simp) ?_
        refine AllReadyH.cons (o := { dst := some 39, op := Op.call { callee := Callee.value (Operand.func 68), args := #[Operand.tmp 37, Operand.tmp 38], argTypes := #[64, 64] }, type := 4, pos := "l08_grant.go:76", after := #[{ on := 8, ground := Ground.data }, { on := 9, ground := Ground.data }, { on := 4, ground := Ground.chain }, { on := 4, ground := Ground.guard }], guard := some (4, true) }) rfl (fun K hK => ?_) AllReadyH.nil
        go_simp
        (go_at_call 68; refine (KL1.out _).mono ?_; rintro e w5 ⟨rfl, hb5⟩; have A5 : Below wr.heap.size wr w5 := (Below.drew (Below.refl _ _)).trans hb5; have d0 : w5.cell? ⟨g, k * 3, none⟩ = some (.string ke) := ((bcell A5).1 _ _ hgr).trans c0; have d1 : w5.cell? ⟨g, k * 3 + 1, none⟩ = some (.string na) := ((bcell A5).1 _ _ hgr).trans c1; have d2 : w5.cell? ⟨g, k * 3 + 2, none⟩ = some (.int .i64 va) := ((bcell A5).1 _ _ hgr).trans c2; have xc0 : w5.cell? ⟨bx, 0, none⟩ = some (.string tp) := ((bcell A5).1 _ _ hxr).trans xr0; have xc1 : w5.cell? ⟨bx, 1, none⟩ = some (.string si) := ((bcell A5).1 _ _ hxr).trans xr1; have xc2 : w5.cell? ⟨bx, 2, none⟩ = some (.int .i64 un) := ((bcell A5).1 _ _ hxr).trans xr2)
        try (go_wp2_with fail)
        refine hK.out _ _ ?_ (fun hH1 => ?_)
        · (try dsimp only)
          first | go_keep | (refine ⟨?_, ?_, ?_, ?_, ?_, ?_⟩ <;> assumption)
        clear hK K hH0
        try simp only [Act.put, List.setIfInBounds_toArray, List.set_cons_zero, List.set_cons_succ]
        refine wpAnyH_take (i := 11) (oi := { dst := some 40, op := Op.pick (Operand.tmp 33) (Operand.tmp 39) (Operand.const (Value.bool false)), type := 4, pos := "l08_grant.go:76", after := #[{ on := 4, ground := Ground.data }, { on := 10, ground := Ground.data }], guard := none }) (v := ?vb11) rfl (by kernel_rfl) (by kernel_rfl) (by kernel_rfl) (fun _ _ _ h => h) (Or.inl ⟨by rfl, ?hyb11⟩) (by assumption) ?restb11
        case hyb11 =>
          intro w hSw
          (try dsimp only at hSw)
          go_simp
          try with_reducible rfl
        try simp only [Act.put, List.setIfInBounds_toArray, List.set_cons_zero, List.set_cons_succ]
        refine wpAnyH_done (by kernel_rfl) ?_ _
        have BC : Hid (Below b w w5) := BR.out.trans (A5.mono (by have := BR.out.size; omega))
        have XC : Hid (BoxG w5 b) := X4.out.below (HB.out.trans (A5.mono HB.out.size))
        have hxc : bx < w5.heap.size := Nat.lt_of_lt_of_le hxr A5.size
        have BW4 : Below W4.heap.size W4 w5 := HB.out.trans (A5.mono HB.out.size)
        have HC1 : Hid (∀ W, Below w5.heap.size w5 W → ∀ j u, (grCells (Y.take k))[j]? = some u → W.cell? ((⟨g, 0, none⟩ : Addr).add j) = some u) := fun W hb => HC1a.out W (BW4.trans (hb.mono BW4.size))
        have HC2 : Hid (∀ W, Below w5.heap.size w5 W → ∀ j u, (grCells (Y.drop k))[j]? = some u → W.cell? ((⟨g, k * 3, none⟩ : Addr).add j) = some u) := fun W hb => HC2a.out W (BW4.trans (hb.mono BW4.size))
        have hbc : b < w5.heap.size := by omega
        clear HC1a HC2a BW4
        clear hb5 BR X4 B4 HB hx0 U0 xr0 xr1 xr2 hxr c0 c1 c2 A5 d0 d1 d2 hgr KL1
        generalize hwc5 : w5 = Wc at *
        clear hwc5
        generalize insG Y ⟨tp, si, un⟩ = M at *
        generalize grCells (Y.take k) = C1 at *
        generalize grCells (Y.drop k) = C2 at *
        generalize hnn : Y.length = n at *
        have O0 : Hid ((Wc.alloc (.cells #[] 64)).ownsRow Wc.heap.size 64 3 (.slice (some ⟨Wc.heap.size, 0, none⟩) 0 0) 0 (grCells [])) := World.ownsRow_made Wc #[] 0 (Nat.le_refl _) (Nat.zero_le _) rfl
        have AA : Hid (Below Wc.heap.size Wc (Wc.alloc (.cells #[] 64))) := (Below.refl _ _).alloc (Nat.le_refl _) _
        have BA : Hid (Below b w (Wc.alloc (.cells #[] 64))) := BC.out.trans (AA.out.mono (by omega))
        have qk0 : (0 : Int) ≤ (k : Nat) := by omega
        have qk1 : ((k : Nat) : Int) ≤ cap := by omega
        have qk2 : ((k : Nat) : Int) ≤ n := by omega
        go_wp2_with (at_builtin; go_must (refine wpList_append_own _ rfl _ _ 23 rfl Wc.heap.size 64 i0 (.agg #[.string ⟨#[]⟩, .string ⟨#[]⟩, .int .i64 0]) 3 40 Try.underlying23 hi hy0 hy1 hy2 rfl (by decide) _ _ _ rfl O0.out ⟨g, 0, none⟩ k _ C1 rfl hl1 (HC1.out _ AA.out) o1 (by unfold maxLen; omega) (by omega) (by simp) ?_))
        intro v1 w6 ho1 hg1 hn1
        have A6 : Hid (Below Wc.heap.size Wc w6) := AA.out.grown hg1 (by simp) (fun j hj => own_base O0.out j hj)
        have O1 : Hid (World.ownsRow w6 Wc.heap.size 64 3 v1 (0 + k) (grCells [] ++ C1)) := by show World.ownsRow _ _ _ _ _ _ _; first | exact ho1 | (rw [Nat.zero_add]; exact ho1)
        have y0 : w6.cell? ⟨bx, 0, none⟩ = some (.string tp) := ((bcell A6.out).1 _ _ hxc).trans xc0
        have y1 : w6.cell? ⟨bx, 1, none⟩ = some (.string si) := ((bcell A6.out).1 _ _ hxc).trans xc1
        have y2 : w6.cell? ⟨bx, 2, none⟩ = some (.int .i64 un) := ((bcell A6.out).1 _ _ hxc).trans xc2
        have z6 : Wc.heap.size ≤ w6.heap.size := A6.out.size
        clear ho1 hg1 hn1 O0 AA BA xc0 xc1 xc2
        go_wp2_with (at_builtin; go_must (refine wpList_append_own _ rfl _ _ 23 rfl Wc.heap.size 64 i0 (.agg #[.string ⟨#[]⟩, .string ⟨#[]⟩, .int .i64 0]) 3 40 Try.underlying23 hi hy0 hy1 hy2 rfl (by decide) _ _ _ rfl (O1.out.alloc _) ⟨w6.heap.size, 0, none⟩ 1 1 (grVals ⟨tp, si, un⟩) rfl rfl (cell_Gr _ ⟨tp, si, un⟩ _) (one_Gr ⟨tp, si, un⟩) (by unfold maxLen; omega) (by omega) (by simp; omega) ?_))
        intro v2 w7 ho2 hg2 hn2
        have A7 : Hid (Below Wc.heap.size Wc w7) := (A6.out.alloc z6 _).grown hg2 (by simp; omega) (fun j hj => own_base O1.out j hj)
        have O2 : Hid (World.ownsRow w7 Wc.heap.size 64 3 v2 _ _) := ho2
        have z7 : Wc.heap.size ≤ w7.heap.size := A7.out.size
        have B7 : Hid (Below b w w7) := BC.out.trans (A7.out.mono (by omega))
        clear ho2 hg2 hn2 O1 A6 y0 y1 y2
        by_cases hcl : k = cap
        · have hz0 : n - k = 0 := by omega
          have hC2 : C2 = [] := List.length_eq_zero_iff.1 (by omega)
          go_wp2_with (at_builtin; go_must (refine wpList_append_own _ rfl _ _ 23 rfl Wc.heap.size 64 i0 (.agg #[.string ⟨#[]⟩, .string ⟨#[]⟩, .int .i64 0]) 3 40 Try.underlying23 hi hy0 hy1 hy2 rfl (by decide) _ _ _ rfl O2.out ⟨g, 0, none⟩ 0 0 [] rfl rfl (by intro j u h; cases h) (by intro v h; cases h) (by unfold maxLen; omega) (by omega) z7 ?_))
          intro v3 w8 ho3 hg3 hn3
          have S8 : Hid (SliceO w8 Wc.heap.size v3 M) := HOP.out _ _ _ (by have h := ho3; rw [hz0, hC2]; simpa [grCells, List.append_assoc, hcl] using h)
          have A8 : Hid (Below Wc.heap.size Wc w8) := A7.out.grown hg3 z7 (fun j hj => own_base O2.out j hj)
          have X8 : Hid (BoxG w8 b) := XC.out.below A8.out
          have B8 : Hid (Below b w w8) := BC.out.trans (A8.out.mono (by omega))
          obtain ⟨pq, cq, hv3⟩ : ∃ pq cq, v3 = .slice pq M.length cq := by obtain ⟨⟨p, c, e, -⟩, -⟩ := sliceG_of_own S8.out; exact ⟨p, c, e⟩
          clear ho3 hg3 hn3 O2 A7 A8 HOP hl1 hl2 hz0 hcl
          generalize hm : M.length = m at *
          subst hv3
          obtain ⟨x0, x1, x2, f0, f1, f2, hltx⟩ := X8.out
          go_wp2
          refine bodyPost_ret (v := .agg #[.slice pq m cq, .bool false, .int .i64 0]) (by simp [results, Try.results58, go_sem, x0, x1, x2]) rfl ⟨_, rfl, ⟨_, by rw [HR.out], by rw [HR.out, hbb]; exact (S8.out.store3 hbc).mono (by omega)⟩, by rw [hbb]; exact store3G_below B8.out⟩
        · have k4 : ¬ (k = cap) := hcl
          go_wp2_with (at_builtin; go_must (refine wpList_append_own _ rfl _ _ 23 rfl Wc.heap.size 64 i0 (.agg #[.string ⟨#[]⟩, .string ⟨#[]⟩, .int .i64 0]) 3 40 Try.underlying23 hi hy0 hy1 hy2 rfl (by decide) _ _ _ rfl O2.out ⟨g, k * 3, none⟩ (n - k) (cap - k) C2 rfl hl2 (HC2.out _ A7.out) o2 (by unfold maxLen; omega) (by omega) z7 ?_))
          intro v3 w8 ho3 hg3 hn3
          have S8 : Hid (SliceO w8 Wc.heap.size v3 M) := HOP.out _ _ _ (by have h := ho3; simpa [grCells, List.append_assoc] using h)
          have A8 : Hid (Below Wc.heap.size Wc w8) := A7.out.grown hg3 z7 (fun j hj => own_base O2.out j hj)
          have X8 : Hid (BoxG w8 b) := XC.out.below A8.out
          have B8 : Hid (Below b w w8) := BC.out.trans (A8.out.mono (by omega))
          obtain ⟨pq, cq, hv3⟩ : ∃ pq cq, v3 = .slice pq M.length cq := by obtain ⟨⟨p, c, e, -⟩, -⟩ := sliceG_of_own S8.out; exact ⟨p, c, e⟩
          clear ho3 hg3 hn3 O2 A7 A8 HOP hl1 hl2 k4 hcl
          generalize hm : M.length = m at *
          subst hv3
          obtain ⟨x0, x1, x2, f0, f1, f2, hltx⟩ := X8.out
          go_wp2
          refine bodyPost_ret (v := .agg #[.slice pq m cq, .bool false, .int .i64 0]) (by simp [results, Try.results58, go_sem, x0, x1, x2]) rfl ⟨_, rfl, ⟨_, by rw [HR.out], by rw [HR.out, hbb]; exact (S8.out.store3 hbc).mono (by omega)⟩, by rw [hbb]; exact store3G_below B8.out⟩
    · obtain rfl : k = Y.length := by omega
      have q1 : decide ((Y.length : Int) < (Y.length : Int)) = false := by rw [decide_eq_false_iff_not]; omega
      have hE := HCk (fun h => absurd h hlt)
      have HOP : Hid (∀ (W : World) (B : Nat) (v : Value), W.ownsRow B 64 3 v (Y.length + 1 + (Y.length - Y.length)) (grCells (Y.take Y.length) ++ (grVals ⟨tp, si, un⟩ ++ grCells (Y.drop Y.length))) → SliceO W B v (insG Y ⟨tp, si, un⟩)) := fun W B v h => HOPk W B v hk h hE
      clear HOPk HCk hE HCut KL hcW HM hlt
      have BC : Hid (Below b w wr.drew) := BR.out.drew
      have XC : Hid (BoxG wr.drew b) := X4.out.below HB.out.drew
      have xc0 : wr.drew.cell? ⟨bx, 0, none⟩ = some (.string tp) := xr0
      have xc1 : wr.drew.cell? ⟨bx, 1, none⟩ = some (.string si) := xr1
      have xc2 : wr.drew.cell? ⟨bx, 2, none⟩ = some (.int .i64 un) := xr2
      have hxc : bx < wr.drew.heap.size := hxr
      have BW4 : Below W4.heap.size W4 wr.drew := HB.out.drew
      have HC1 : Hid (∀ W, Below wr.drew.heap.size wr.drew W → ∀ j u, (grCells (Y.take Y.length))[j]? = some u → W.cell? ((⟨g, 0, none⟩ : Addr).add j) = some u) := fun W hb => HC1a.out W (BW4.trans (hb.mono BW4.size))
      have HC2 : Hid (∀ W, Below wr.drew.heap.size wr.drew W → ∀ j u, (grCells (Y.drop Y.length))[j]? = some u → W.cell? ((⟨g, Y.length * 3, none⟩ : Addr).add j) = some u) := fun W hb => HC2a.out W (BW4.trans (hb.mono BW4.size))
      have hbc : b < wr.drew.heap.size := by omega
      clear HC1a HC2a BW4
      go_upto_region 6 with fail
      refine wp_region_held_drew (S := (fun w' => w'.cell? ⟨bx, 0, none⟩ = some (.string tp))) (by kernel_rfl) ?_ (fun hH0 => ?_)
      · (try dsimp only)
        go_keep
      refine wpAnyH_take (i := 0) (oi := { dst := some 29, op := Op.move (Operand.tmp 11), type := 3, pos := "l08_grant.go:76", after := #[], guard := none }) (v := ?vc0) rfl (by kernel_rfl) (by kernel_rfl) (by kernel_rfl) (fun _ _ _ h => h) (Or.inl ⟨by rfl, ?hyc0⟩) (by assumption) ?restc0
      case hyc0 =>
        intro w hSw
        (try dsimp only at hSw)
        go_simp
        try with_reducible rfl
      try simp only [Act.put, List.setIfInBounds_toArray, List.set_cons_zero, List.set_cons_succ]
      refine wpAnyH_take (i := 1) (oi := { dst := some 30, op := Op.move (Operand.tmp 9), type := 23, pos := "l08_grant.go:76", after := #[], guard := none }) (v := ?vc1) rfl (by kernel_rfl) (by kernel_rfl) (by kernel_rfl) (fun _ _ _ h => h) (Or.inl ⟨by rfl, ?hyc1⟩) (by assumption) ?restc1
      case hyc1 =>
        intro w hSw
        (try dsimp only at hSw)
        go_simp
        try with_reducible rfl
      try simp only [Act.put, List.setIfInBounds_toArray, List.set_cons_zero, List.set_cons_succ]
      refine wpAnyH_take (i := 2) (oi := { dst := some 31, op := Op.call { callee := Callee.builtin Builtin.len, args := #[Operand.tmp 30], argTypes := #[23] }, type := 3, pos := "l08_grant.go:76", after := #[{ on := 1, ground := Ground.data }], guard := none }) (v := ?vc2) rfl (by kernel_rfl) (by kernel_rfl) (by kernel_rfl) (fun _ _ _ h => h) (Or.inl ⟨by rfl, ?hyc2⟩) (by assumption) ?restc2
      case hyc2 =>
        intro w hSw
        (try dsimp only at hSw)
        go_simp
        try with_reducible rfl
      try simp only [Act.put, List.setIfInBounds_toArray, List.set_cons_zero, List.set_cons_succ]
      refine wpAnyH_take (i := 3) (oi := { dst := some 32, op := Op.binOp BinOp.lss 3 (Operand.tmp 29) (Operand.tmp 31) 3, type := 4, pos := "l08_grant.go:76", after := #[{ on := 0, ground := Ground.data }, { on := 2, ground := Ground.data }], guard := none }) (v := ?vc3) rfl (by kernel_rfl) (by kernel_rfl) (by kernel_rfl) (fun _ _ _ h => h) (Or.inl ⟨by rfl, ?hyc3⟩) (by assumption) ?restc3
      case hyc3 =>
        intro w hSw
        (try dsimp only at hSw)
        go_simp
        try with_reducible rfl
      try simp only [Act.put, List.setIfInBounds_toArray, List.set_cons_zero, List.set_cons_succ]
      refine wpAnyH_take (i := 4) (oi := { dst := some 33, op := Op.move (Operand.tmp 32), type := 4, pos := "l08_grant.go:76", after := #[{ on := 3, ground := Ground.data }], guard := none }) (v := ?vc4) rfl (by kernel_rfl) (by kernel_rfl) (by kernel_rfl) (fun _ _ _ h => h) (Or.inl ⟨by rfl, ?hyc4⟩) (by assumption) ?restc4
      case hyc4 =>
        intro w hSw
        (try dsimp only at hSw)
        go_simp
        try with_reducible rfl
      try simp only [Act.put, List.setIfInBounds_toArray, List.set_cons_zero, List.set_cons_succ]
      refine wpAnyH_take (i := 5) (oi := { dst := some 34, op := Op.move (Operand.tmp 9), type := 23, pos := "l08_grant.go:76", after := #[{ on := 4, ground := Ground.guard }], guard := some (4, true) }) (v := undef) rfl (by kernel_rfl) (by kernel_rfl) (by kernel_rfl) (fun _ _ _ h => h) (Or.inr ⟨by rfl, rfl⟩) (by assumption) ?_
      try simp only [Act.put, List.setIfInBounds_toArray, List.set_cons_zero, List.set_cons_succ]
      refine wpAnyH_take (i := 6) (oi := { dst := some 35, op := Op.move (Operand.tmp 11), type := 3, pos := "l08_grant.go:76", after := #[{ on := 4, ground := Ground.guard }], guard := some (4, true) }) (v := undef) rfl (by kernel_rfl) (by kernel_rfl) (by kernel_rfl) (fun _ _ _ h => h) (Or.inr ⟨by rfl, rfl⟩) (by assumption) ?_
      try simp only [Act.put, List.setIfInBounds_toArray, List.set_cons_zero, List.set_cons_succ]
      refine wpAnyH_take (i := 7) (oi := { dst := some 36, op := Op.indexAddr 23 (Operand.tmp 34) (Operand.tmp 35), type := 0, pos := "l08_grant.go:76", after := #[{ on := 5, ground := Ground.data }, { on := 6, ground := Ground.data }, { on := 4, ground := Ground.guard }], guard := some (4, true) }) (v := undef) rfl (by kernel_rfl) (by kernel_rfl) (by kernel_rfl) (fun _ _ _ h => h) (Or.inr ⟨by rfl, rfl⟩) (by assumption) ?_
      try simp only [Act.put, List.setIfInBounds_toArray, List.set_cons_zero, List.set_cons_succ]
      refine wpAnyH_take (i := 8) (oi := { dst := some 37, op := Op.load 64 (Operand.tmp 36), type := 64, pos := "l08_grant.go:76", after := #[{ on := 7, ground := Ground.data }, { on := 4, ground := Ground.guard }], guard := some (4, true) }) (v := undef) rfl (by kernel_rfl) (by kernel_rfl) (by kernel_rfl) (fun _ _ _ h => h) (Or.inr ⟨by rfl, rfl⟩) (by assumption) ?_
      try simp only [Act.put, List.setIfInBounds_toArray, List.set_cons_zero, List.set_cons_succ]
      refine wpAnyH_take (i := 9) (oi := { dst := some 38, op := Op.load 64 (Operand.tmp 10), type := 64, pos := "l08_grant.go:76", after := #[{ on := 4, ground := Ground.guard }], guard := some (4, true) }) (v := undef) rfl (by kernel_rfl) (by kernel_rfl) (by kernel_rfl) (fun _ _ _ h => h) (Or.inr ⟨by rfl, rfl⟩) (by assumption) ?_
      try simp only [Act.put, List.setIfInBounds_toArray, List.set_cons_zero, List.set_cons_succ]
      refine wpAnyH_take (i := 10) (oi := { dst := some 39, op := Op.call { callee := Callee.value (Operand.func 68), args := #[Operand.tmp 37, Operand.tmp 38], argTypes := #[64, 64] }, type := 4, pos := "l08_grant.go:76", after := #[{ on := 8, ground := Ground.data }, { on := 9, ground := Ground.data }, { on := 4, ground := Ground.chain }, { on := 4, ground := Ground.guard }], guard := some (4, true) }) (v := undef) rfl (by kernel_rfl) (by kernel_rfl) (by kernel_rfl) (fun _ _ _ h => h) (Or.inr ⟨by rfl, rfl⟩) (by assumption) ?_
      try simp only [Act.put, List.setIfInBounds_toArray, List.set_cons_zero, List.set_cons_succ]
      refine wpAnyH_take (i := 11) (oi := { dst := some 40, op := Op.pick (Operand.tmp 33) (Operand.tmp 39) (Operand.const (Value.bool false)), type := 4, pos := "l08_grant.go:76", after := #[{ on := 4, ground := Ground.data }, { on := 10, ground := Ground.data }], guard := none }) (v := ?vc11) rfl (by kernel_rfl) (by kernel_rfl) (by kernel_rfl) (fun _ _ _ h => h) (Or.inl ⟨by rfl, ?hyc11⟩) (by assumption) ?restc11
      case hyc11 =>
        intro w hSw
        (try dsimp only at hSw)
        go_simp
        try with_reducible rfl
      try simp only [Act.put, List.setIfInBounds_toArray, List.set_cons_zero, List.set_cons_succ]
      refine wpAnyH_done (by kernel_rfl) ?_ _
      clear BR X4 B4 HB hx0 U0 xr0 xr1 xr2 hxr
      generalize hwc5 : wr.drew = Wc at *
      clear hwc5
      generalize insG Y ⟨tp, si, un⟩ = M at *
      generalize grCells (Y.take Y.length) = C1 at *
      generalize grCells (Y.drop Y.length) = C2 at *
      generalize hnn : Y.length = n at *
      have O0 : Hid ((Wc.alloc (.cells #[] 64)).ownsRow Wc.heap.size 64 3 (.slice (some ⟨Wc.heap.size, 0, none⟩) 0 0) 0 (grCells [])) := World.ownsRow_made Wc #[] 0 (Nat.le_refl _) (Nat.zero_le _) rfl
      have AA : Hid (Below Wc.heap.size Wc (Wc.alloc (.cells #[] 64))) := (Below.refl _ _).alloc (Nat.le_refl _) _
      have BA : Hid (Below b w (Wc.alloc (.cells #[] 64))) := BC.out.trans (AA.out.mono (by omega))
      have qk0 : (0 : Int) ≤ (n : Nat) := by omega
      have qk1 : ((n : Nat) : Int) ≤ cap := by omega
      have qk2 : ((n : Nat) : Int) ≤ n := by omega
      go_wp2_with (at_builtin; go_must (refine wpList_append_own _ rfl _ _ 23 rfl Wc.heap.size 64 i0 (.agg #[.string ⟨#[]⟩, .string ⟨#[]⟩, .int .i64 0]) 3 40 Try.underlying23 hi hy0 hy1 hy2 rfl (by decide) _ _ _ rfl O0.out ⟨g, 0, none⟩ n _ C1 rfl hl1 (HC1.out _ AA.out) o1 (by unfold maxLen; omega) (by omega) (by simp) ?_))
      intro v1 w6 ho1 hg1 hn1
      have A6 : Hid (Below Wc.heap.size Wc w6) := AA.out.grown hg1 (by simp) (fun j hj => own_base O0.out j hj)
      have O1 : Hid (World.ownsRow w6 Wc.heap.size 64 3 v1 (0 + n) (grCells [] ++ C1)) := by show World.ownsRow _ _ _ _ _ _ _; first | exact ho1 | (rw [Nat.zero_add]; exact ho1)
      have y0 : w6.cell? ⟨bx, 0, none⟩ = some (.string tp) := ((bcell A6.out).1 _ _ hxc).trans xc0
      have y1 : w6.cell? ⟨bx, 1, none⟩ = some (.string si) := ((bcell A6.out).1 _ _ hxc).trans xc1
      have y2 : w6.cell? ⟨bx, 2, none⟩ = some (.int .i64 un) := ((bcell A6.out).1 _ _ hxc).trans xc2
      have z6 : Wc.heap.size ≤ w6.heap.size := A6.out.size
      clear ho1 hg1 hn1 O0 AA BA xc0 xc1 xc2
      go_wp2_with (at_builtin; go_must (refine wpList_append_own _ rfl _ _ 23 rfl Wc.heap.size 64 i0 (.agg #[.string ⟨#[]⟩, .string ⟨#[]⟩, .int .i64 0]) 3 40 Try.underlying23 hi hy0 hy1 hy2 rfl (by decide) _ _ _ rfl (O1.out.alloc _) ⟨w6.heap.size, 0, none⟩ 1 1 (grVals ⟨tp, si, un⟩) rfl rfl (cell_Gr _ ⟨tp, si, un⟩ _) (one_Gr ⟨tp, si, un⟩) (by unfold maxLen; omega) (by omega) (by simp; omega) ?_))
      intro v2 w7 ho2 hg2 hn2
      have A7 : Hid (Below Wc.heap.size Wc w7) := (A6.out.alloc z6 _).grown hg2 (by simp; omega) (fun j hj => own_base O1.out j hj)
      have O2 : Hid (World.ownsRow w7 Wc.heap.size 64 3 v2 _ _) := ho2
      have z7 : Wc.heap.size ≤ w7.heap.size := A7.out.size
      have B7 : Hid (Below b w w7) := BC.out.trans (A7.out.mono (by omega))
      clear ho2 hg2 hn2 O1 A6 y0 y1 y2
      by_cases hcl : n = cap
      · have hz0 : n - n = 0 := by omega
        have hC2 : C2 = [] := List.length_eq_zero_iff.1 (by omega)
        go_wp2_with (at_builtin; go_must (refine wpList_append_own _ rfl _ _ 23 rfl Wc.heap.size 64 i0 (.agg #[.string ⟨#[]⟩, .string ⟨#[]⟩, .int .i64 0]) 3 40 Try.underlying23 hi hy0 hy1 hy2 rfl (by decide) _ _ _ rfl O2.out ⟨g, 0, none⟩ 0 0 [] rfl rfl (by intro j u h; cases h) (by intro v h; cases h) (by unfold maxLen; omega) (by omega) z7 ?_))
        intro v3 w8 ho3 hg3 hn3
        have S8 : Hid (SliceO w8 Wc.heap.size v3 M) := HOP.out _ _ _ (by have h := ho3; rw [hz0, hC2]; simpa [grCells, List.append_assoc, hcl] using h)
        have A8 : Hid (Below Wc.heap.size Wc w8) := A7.out.grown hg3 z7 (fun j hj => own_base O2.out j hj)
        have X8 : Hid (BoxG w8 b) := XC.out.below A8.out
        have B8 : Hid (Below b w w8) := BC.out.trans (A8.out.mono (by omega))
        obtain ⟨pq, cq, hv3⟩ : ∃ pq cq, v3 = .slice pq M.length cq := by obtain ⟨⟨p, c, e, -⟩, -⟩ := sliceG_of_own S8.out; exact ⟨p, c, e⟩
        clear ho3 hg3 hn3 O2 A7 A8 HOP hl1 hl2 hz0 hcl
        generalize hm : M.length = m at *
        subst hv3
        obtain ⟨x0, x1, x2, f0, f1, f2, hltx⟩ := X8.out
        go_wp2
        refine bodyPost_ret (v := .agg #[.slice pq m cq, .bool false, .int .i64 0]) (by simp [results, Try.results58, go_sem, x0, x1, x2]) rfl ⟨_, rfl, ⟨_, by rw [HR.out], by rw [HR.out, hbb]; exact (S8.out.store3 hbc).mono (by omega)⟩, by rw [hbb]; exact store3G_below B8.out⟩
      · have k4 : ¬ (n = cap) := hcl
        go_wp2_with (at_builtin; go_must (refine wpList_append_own _ rfl _ _ 23 rfl Wc.heap.size 64 i0 (.agg #[.string ⟨#[]⟩, .string ⟨#[]⟩, .int .i64 0]) 3 40 Try.underlying23 hi hy0 hy1 hy2 rfl (by decide) _ _ _ rfl O2.out ⟨g, n * 3, none⟩ 0 (cap - n) C2 rfl (by rw [hl2, Nat.sub_self]) (HC2.out _ A7.out) o2 (by unfold maxLen; omega) (by omega) z7 ?_))
        intro v3 w8 ho3 hg3 hn3
        have S8 : Hid (SliceO w8 Wc.heap.size v3 M) := HOP.out _ _ _ (by have h := ho3; simpa [grCells, List.append_assoc] using h)
        have A8 : Hid (Below Wc.heap.size Wc w8) := A7.out.grown hg3 z7 (fun j hj => own_base O2.out j hj)
        have X8 : Hid (BoxG w8 b) := XC.out.below A8.out
        have B8 : Hid (Below b w w8) := BC.out.trans (A8.out.mono (by omega))
        obtain ⟨pq, cq, hv3⟩ : ∃ pq cq, v3 = .slice pq M.length cq := by obtain ⟨⟨p, c, e, -⟩, -⟩ := sliceG_of_own S8.out; exact ⟨p, c, e⟩
        clear ho3 hg3 hn3 O2 A7 A8 HOP hl1 hl2 k4 hcl
        generalize hm : M.length = m at *
        subst hv3
        obtain ⟨x0, x1, x2, f0, f1, f2, hltx⟩ := X8.out
        go_wp2
        refine bodyPost_ret (v := .agg #[.slice pq m cq, .bool false, .int .i64 0]) (by simp [results, Try.results58, go_sem, x0, x1, x2]) rfl ⟨_, rfl, ⟨_, by rw [HR.out], by rw [HR.out, hbb]; exact (S8.out.store3 hbc).mono (by omega)⟩, by rw [hbb]; exact store3G_below B8.out⟩
set_option maxRecDepth 10000 in
set_option maxHeartbeats 4000000 in
theorem specGrantPutO_any (v : Value) (L : List Gr) (tp si : ByteArray) (now : Int) (B : Nat) (w : World) (hs : SliceG w B v L) (hn : L.length ≤ 1048576) (h1 : tp.size ≤ 1048576) (h2 : si.size ≤ 1048576) :
    Calls Try.prog 18 #[v, .string tp, .string si, .int .i64 now] w fun e w' => ∃ v', e = .returned v' ∧ AnsO w' w.heap.size v' (putG L tp si now) ∧ Below w.heap.size w w' := by
  have KB : Hid (∀ W, Below w.heap.size w W → Calls Try.prog 57 #[v, .string tp, .string si, .int .i64 now] W fun e w' => e = .returned (.int .i64 (beginG L tp si now)) ∧ Below W.heap.size W w') := fun W hb => specBegin8_any v L tp si now B W (hs.below hb) hn h1 h2
  have KP : Hid (beginG L tp si now = 0 → ∀ W, Below w.heap.size w W → Calls Try.prog 58 #[v, .string tp, .string si, .int .i64 now] W fun e w' => ∃ v', e = .returned v' ∧ AnsO w' W.heap.size v' (putR L tp si now) ∧ Below W.heap.size W w') := fun h W hb => by
    have hm := mayG_parts (beginG_ok h)
    have t := hm.2.2.2
    unfold timeG at t
    simp only [Bool.and_eq_true, decide_eq_true_eq] at t
    exact specPutRO_any v L tp si now B W (hs.below hb) hm.1 t
  have HNo : Hid (¬ beginG L tp si now = 0 → putG L tp si now = noG (beginG L tp si now)) := fun h => by unfold putG; rw [if_neg h]
  have HY : Hid (beginG L tp si now = 0 → putG L tp si now = putR L tp si now) := fun h => by unfold putG; rw [if_pos h]
  clear hs
  generalize putG L tp si now = Z at *
  generalize putR L tp si now = Y at *
  generalize beginG L tp si now = c at *
  obtain ⟨W0, hW⟩ : ∃ W0, W0 = w.alloc (.cells #[.slice none 0 0, .bool false, .int .i64 0] 27) := ⟨_, rfl⟩
  have hW0 : Hid (W0 = w.alloc (.cells #[.slice none 0 0, .bool false, .int .i64 0] 27)) := hW
  have B0 : Hid (Below w.heap.size w W0) := by show Below _ _ _; rw [hW]; exact (Below.refl _ _).alloc (Nat.le_refl _) _
  have X0 : Hid (BoxG W0 w.heap.size) := by show BoxG _ _; rw [hW]; exact boxG_made w _
  have z0 : w.heap.size < W0.heap.size := by rw [hW]; simp
  clear hW
  go_enter Try.func18, Try.ntmps18
  go_upto_region 1 with fail
  rw [← hW0.out]
  clear hW0
  generalize hbb : w.heap.size = b at *
  go_wp2_with fail
  refine (KB.out _ B0.out).mono ?_
  rintro e w1 ⟨rfl, hb1⟩
  have X1 : Hid (BoxG w1 b) := X0.out.below hb1
  have B1 : Hid (Below b w w1) := B0.out.trans (hb1.mono (by omega))
  have z1 : b < w1.heap.size := Nat.lt_of_lt_of_le z0 hb1.size
  clear hb1 X0 B0
  by_cases hc : c = 0
  case neg =>
    have HR : Hid (Z = noG c) := HNo.out hc
    have q : (c != 0) = true := by rw [bne_iff_ne]; exact hc
    obtain ⟨x0, x1, x2, f0, f1, f2, hlt⟩ := X1.out
    clear hc KP HY HNo
    go_wp2
    refine bodyPost_ret (v := .agg #[.slice none 0 0, .bool false, .int .i64 c]) (by simp [results, Try.results18, go_sem, x0, x1, x2]) rfl ⟨_, rfl, ⟨_, by rw [HR.out]; rfl, by rw [HR.out]; exact sliceO_none _ _⟩, by rw [hbb]; exact store3G_below B1.out⟩
  subst hc
  have HR : Hid (Z = Y) := HY.out rfl
  have KP2 := KP.out rfl
  have KP3 : Hid (∀ W, Below b w W → Calls Try.prog 58 #[v, .string tp, .string si, .int .i64 now] W fun e w' => ∃ v', e = .returned v' ∧ AnsO w' W.heap.size v' Y ∧ Below W.heap.size W w') := KP2
  clear KP KP2 HNo HY
  go_wp2_with fail
  refine (KP3.out _ B1.out).mono ?_
  rintro e w2 ⟨v2, rfl, ⟨s2, rfl, hs2⟩, hb2⟩
  have S2 : Hid (SliceO w2 w1.heap.size s2 Y.ar) := hs2
  have B2 : Hid (Below b w w2) := B1.out.trans (hb2.mono (by omega))
  obtain ⟨x0, x1, x2, f0, f1, f2, hlt⟩ := X1.out.below hb2
  obtain ⟨pq, cq, hv2⟩ : ∃ pq cq, s2 = .slice pq Y.ar.length cq := by obtain ⟨⟨p, c, e, -⟩, -⟩ := sliceG_of_own hs2; exact ⟨p, c, e⟩
  clear hs2 hb2 X1 B1
  obtain ⟨ya, yu, yc⟩ := Y
  dsimp only at *
  generalize hm : ya.length = m at *
  subst hv2
  go_wp2
  refine bodyPost_ret (v := .agg #[.slice pq m cq, .bool yu, .int .i64 yc]) (by simp [results, Try.results18, go_sem, x0, x1, x2]) rfl ⟨_, rfl, ⟨_, by rw [HR.out], by rw [HR.out, hbb]; exact (S2.out.store3 z1).mono (by omega)⟩, by rw [hbb]; exact store3G_below B2.out⟩
end Go.Proofs.Ytecaeolgheefmaa

/- The specification's drawn grants. -/
namespace Go.Proofs.Ytecaeolgheefmaa
open Go.RowKit
theorem SliceG.setUn {w : World} {B g m cap : Nat} {x : Gr} {T : List Gr} {n : Int} (h : SliceG w B (.slice (some ⟨g, 0, none⟩) m cap) (x :: T)) : SliceG (w.setCell ⟨g, 2, none⟩ (.int .i64 n)) B (.slice (some ⟨g, 0, none⟩) m cap) (⟨x.tp, x.si, n⟩ :: T) := by
  obtain ⟨⟨p, c, e, hc⟩, p2, c2, e2, hr2⟩ := h
  refine ⟨⟨p, c, e, fun h0 => ?_⟩, p2, c2, e2, hr2⟩
  obtain ⟨g', e1, h1, h2, h3⟩ := hc (by simp)
  have eg : g' = g := by
    injection e with e e' e''
    rw [e1] at e
    injection e with e
    injection e with e
    exact e.symm
  subst eg
  refine ⟨g', e1, h1, by simpa using h2, fun j hj o ho => ?_⟩
  obtain ⟨k1, k2⟩ := h3 j hj o ho
  by_cases hz : j * 3 + o = 2
  · have hj0 : j = 0 := by omega
    have ho2 : o = 2 := by omega
    subst hj0 ho2
    exact ⟨World.cell?_setCell_same _ _ _ k1, by simpa using k2⟩
  · refine ⟨?_, by simpa using k2⟩
    rw [World.cell?_setCell_other _ _ _ _ (by intro e; injection e with _ e; exact hz e.symm), k1]
    cases j with
    | succ j => rfl
    | zero =>
      match o, ho, hz with
      | 0, _, _ => rfl
      | 1, _, _ => rfl
      | 2, _, hz => exact absurd rfl hz
theorem own_snocG {w : World} {B : Nat} {v : Value} {L : List Gr} {x : Gr} (h : w.ownsRow B 64 3 v (L.length + 1) (grCells L ++ grVals x)) : SliceO w B v (L ++ [x]) := by
  unfold SliceO
  rw [grCells_app, List.length_append]
  have e : grCells [x] = grVals x := by simp [grCells]
  rw [e]
  exact h
set_option maxRecDepth 10000 in
set_option maxHeartbeats 8000000 in
theorem srcGrants8_any (g : Nat) (w : World) (hs : SrcAt w g) :
    Calls Try.prog 50 #[.pointer (some ⟨g, 0, none⟩)] w fun e w' => (∃ v L, e = .returned v ∧ SliceG w' w.heap.size v L ∧ L.length ≤ 10) ∧ SrcAt w' g ∧ w.grownBy w' (some g) := by
  obtain ⟨i0, hi, hy0, hy1, hy2⟩ := info_parts infoGrant
  have hg := hs.1
  have O0 : Hid (SliceO (w.alloc (.cells #[] 64)) w.heap.size (.slice (some ⟨w.heap.size, 0, none⟩) 0 0) []) := World.ownsRow_made (e := 64) (size := 3) w #[] 0 (Nat.le_refl _) (Nat.zero_le _) rfl
  have S0 : Hid (SrcAt (w.alloc (.cells #[] 64)) g) := hs.alloc _
  have G0 : Hid (w.grownBy (w.alloc (.cells #[] 64)) (some g)) := World.grownBy_alloc _ _ _
  clear hs
  go_enter Try.func50, Try.ntmps50
  go_wp2_with fail
  refine (srcN_any g 7 _ S0.out (by decide)).mono ?_
  rintro e w1 ⟨r, rfl, r0, r1, _, s1, g1⟩
  have r2 := r1 (by decide)
  have O1 : Hid (SliceO w1 w.heap.size (.slice (some ⟨w.heap.size, 0, none⟩) 0 0) []) := O0.out.grown g1 hg
  have G1 : Hid (w.grownBy w1 (some g)) := G0.out.trans g1
  have S1 : Hid (SrcAt w1 g) := s1
  clear g1 s1 O0 S0 G0 r1
  go_wp2
  go_loopw [3, 4] (fun v i wr => ∃ (k : Nat) (L : List Gr), k ≤ 6 ∧ i = .int .i64 (k : Int) ∧ L.length ≤ 8 ∧ Hid (SliceO wr w.heap.size v L) ∧ Hid (SrcAt wr g) ∧ Hid (w.grownBy wr (some g))) (fun _ i _ => (intOf i).toNat)
  case atStart => exact ⟨r.toNat, [], by omega, by rw [Int.toNat_of_nonneg r0], by simp, O1, S1, G1⟩
  case round =>
    obtain ⟨k, L, hk, rfl, hL, HO, HS, HG⟩ := hrel
    have hwz := HG.out.size
    have hgr := HS.out.1
    by_cases h0 : 0 < k
    · have q0 : decide ((0 : Int) < (k : Int)) = true := by rw [decide_eq_true_iff]; omega
      go_wp2_with fail
      refine (srcSite8_any g _ HS.out).mono ?_
      rintro e w2 ⟨⟨tp, rfl, htp⟩, s2, g2⟩
      have O2 : Hid (SliceO w2 w.heap.size u3 L) := HO.out.grown g2 hg
      have G2 : Hid (w.grownBy w2 (some g)) := HG.out.trans g2
      clear g2
      go_wp2_with fail
      refine (srcSite8_any g _ s2).mono ?_
      rintro e w3 ⟨⟨si, rfl, hsi⟩, s3, g3⟩
      have O3 : Hid (SliceO w3 w.heap.size u3 L) := O2.out.grown g3 hg
      have G3 : Hid (w.grownBy w3 (some g)) := G2.out.trans g3
      clear g3 s2 O2 G2
      go_wp2_with fail
      refine (srcN_any g 40 _ s3 (by decide)).mono ?_
      rintro e w4 ⟨n, rfl, -, -, -, s4, g4⟩
      have O4 : Hid (SliceO w4 w.heap.size u3 L) := O3.out.grown g4 hg
      have G4 : Hid (w.grownBy w4 (some g)) := G3.out.trans g4
      have S4 : Hid (SrcAt w4 g) := s4
      clear g4 s3 s4 O3 G3 HO HS HG
      have hz4 := G4.out.size
      go_wp2_with fail
      refine (specGrantPutO_any u3 L tp si n w.heap.size w4 O4.out.slice (by omega) (by omega) (by omega)).mono ?_
      rintro e w5 ⟨vs, rfl, ⟨ss, rfl, s5⟩, hb5⟩
      have hl5 := putG_len L tp si n
      obtain ⟨pss, css, hvss⟩ : ∃ p c, ss = .slice p (putG L tp si n).ar.length c := by obtain ⟨⟨p, cap, e, -⟩, -⟩ := SliceO.slice s5; exact ⟨p, cap, e⟩
      generalize putG L tp si n = Z at *
      obtain ⟨W5, hW⟩ : ∃ W, W = w5.alloc (.cells #[ss, .bool Z.us, .int .i64 Z.co] 27) := ⟨_, rfl⟩
      have HW : Hid (W5 = w5.alloc (.cells #[ss, .bool Z.us, .int .i64 Z.co] 27)) := hW
      have A5 : Below w5.heap.size w5 W5 := by rw [hW]; exact (Below.refl _ _).alloc (Nat.le_refl _) _
      have C5 : Below w4.heap.size w4 W5 := hb5.trans (A5.mono hb5.size)
      have O5 : Hid (SliceO W5 w.heap.size u3 L) := O4.out.below C5
      have P5 : Hid (SliceO W5 w.heap.size ss Z.ar) := (SliceO.mono s5 hz4).below A5
      have G5 : Hid (w.grownBy W5 (some g)) := grown_of_below G4.out C5
      have S5 : Hid (SrcAt W5 g) := S4.out.below C5
      have x0 : W5.cell? ⟨w5.heap.size, 0, none⟩ = some ss := by rw [hW]; simp
      have x2 : W5.cell? ⟨w5.heap.size, 2, none⟩ = some (.int .i64 Z.co) := by rw [hW]; simp
      clear hW A5 C5 O4 G4 S4 s5 hb5
      subst hvss
      go_upto_region 6 with fail
      rw [← HW.out]
      clear HW
      by_cases hc : Z.co = 0
      · have qc : decide (Z.co = 0) = true := by rw [decide_eq_true_iff]; exact hc
        go_wp2
        go_roundw
        case rel => exact ⟨k - 1, Z.ar, by omega, by rw [Int.ofNat_sub (by omega)]; rfl, hl5, P5, S5, G5⟩
        case measure => simp [intOf]; omega
      · have qc : decide (Z.co = 0) = false := by rw [decide_eq_false_iff_not]; exact hc
        go_wp2
        go_roundw
        case rel => exact ⟨k - 1, L, by omega, by rw [Int.ofNat_sub (by omega)]; rfl, hL, O5, S5, G5⟩
        case measure => simp [intOf]; omega
    · have q0 : decide ((0 : Int) < (k : Int)) = false := by rw [decide_eq_false_iff_not]; omega
      go_wp2_with fail
      refine (srcOne_any g 12 _ HS.out (by decide)).mono ?_
      rintro e w2 ⟨⟨b, rfl⟩, s2, g2⟩
      have O2 : Hid (SliceO w2 w.heap.size u3 L) := HO.out.grown g2 hg
      have G2 : Hid (w.grownBy w2 (some g)) := HG.out.trans g2
      have S2 : Hid (SrcAt w2 g) := s2
      clear g2 s2 HO HS HG
      cases b with
      | false =>
        go_wp2
        go_ret
        exact ⟨⟨_, L, rfl, O2.out.slice, by omega⟩, S2.out, G2.out⟩
      | true =>
        go_wp2_with fail
        refine (srcN_any g 3 _ S2.out (by decide)).mono ?_
        rintro e w3 ⟨r', rfl, t0, t1, -, s3, g3⟩
        have t2 := t1 (by decide)
        have O3 : Hid (SliceO w3 w.heap.size u3 L) := O2.out.grown g3 hg
        have G3 : Hid (w.grownBy w3 (some g)) := G2.out.trans g3
        have S3 : Hid (SrcAt w3 g) := s3
        have hz3 := G3.out.size
        have hg3 := s3.1
        clear g3 s3 t1 O2 G2 S2 hgr hwz
        by_cases e0 : r' = 0
        · subst e0
          go_wp2_with fail
          refine (srcPick_short g w3.heap.size 1 3 1 _ (S3.out.alloc _) (short_made w3 _ _ _ _ (by rfl)) (by omega) (by decide)).mono ?_
          rintro e w4 ⟨⟨tp, rfl, htp⟩, s4, g4⟩
          have O4 : Hid (SliceO w4 w.heap.size u3 L) := SliceO.grown (row_kept (row := none) O3.out (World.grownBy_alloc _ _ _) (fun b e => by cases e)) g4 hg
          have G4 : Hid (w.grownBy w4 (some g)) := G3.out.trans ((World.grownBy_alloc _ _ _).trans g4)
          clear g4
          go_wp2_with fail
          refine (srcEdge_any g _ s4).mono ?_
          rintro e w5 ⟨⟨n, rfl⟩, s5, g5⟩
          have O5 : Hid (SliceO w5 w.heap.size u3 L) := O4.out.grown g5 hg
          have G5 : Hid (w.grownBy w5 (some g)) := G4.out.trans g5
          have S5 : Hid (SrcAt w5 g) := s5
          have hz5 := G5.out.size
          clear g5 s4 s5 O4 G4 O3 G3 S3
          go_wp2_with (at_builtin; go_must (refine wpList_append_own _ rfl _ _ 23 rfl w.heap.size 64 i0 (.agg #[.string ⟨#[]⟩, .string ⟨#[]⟩, .int .i64 0]) 3 40 Try.underlying23 hi hy0 hy1 hy2 rfl (by decide) _ _ _ rfl (row_kept (row := none) O5.out (World.grownBy_alloc _ _ _) (fun b e => by cases e)) ⟨w5.heap.size, 0, none⟩ 1 1 (grVals ⟨tp, ⟨#[115]⟩, n⟩) rfl rfl (cell_Gr _ _ _) (one_Gr _) (by unfold maxLen; omega) (by omega) (by simp; omega) ?_))
          intro v6 w6 ho6 hg6 _
          have O6 : Hid (SliceO w6 w.heap.size v6 (L ++ [⟨tp, ⟨#[115]⟩, n⟩])) := own_snocG ho6
          have hrow : ∀ b, u3.ownBlock = some b → w.heap.size ≤ b := fun b e => (World.ownsRow.lt O5.out b e).1
          have G6 : Hid (w.grownBy w6 (some g)) := rows_grown G5.out (World.grownBy_alloc _ _ _) hg6 hrow
          have S6 : Hid (SrcAt w6 g) := (S5.out.alloc _).grown hg6 (fun b e => by have := hrow b e; omega)
          clear ho6 hg6 hrow
          go_wp2
          go_ret
          exact ⟨⟨_, _, rfl, O6.out.slice, by simp; omega⟩, S6.out, G6.out⟩
        · have q1 : decide (r' = 0) = false := by rw [decide_eq_false_iff_not]; exact e0
          by_cases e1 : r' = 1
          · subst e1
            go_wp2
            go_loopw [3, 6] (fun v i wr => ∃ (j : Nat) (M : List Gr), j ≤ M.length ∧ M.length ≤ 10 ∧ i = .int .i64 (j : Int) ∧ Hid (SliceO wr w.heap.size v M) ∧ Hid (SrcAt wr g) ∧ Hid (w.grownBy wr (some g))) (fun _ i _ => 20 - (intOf i).toNat)
            case atStart => exact ⟨0, L, by omega, by omega, rfl, O3, S3, G3⟩
            case round =>
              obtain ⟨j, M, hj, hM, rfl, HO, HS, HG⟩ := hrel
              obtain ⟨pm, cm, hu⟩ : ∃ p c, u3 = .slice p M.length c := by obtain ⟨⟨p, cap, e, -⟩, -⟩ := HO.out.slice; exact ⟨p, cap, e⟩
              subst hu
              clear O3 S3 G3
              go_wp2_with fail
              refine (srcN_any g 3 _ HS.out (by decide)).mono ?_
              rintro e w4 ⟨r2', rfl, t3, t4, -, s4, g4⟩
              have t5 := t4 (by decide)
              have O4 : Hid (SliceO w4 w.heap.size (.slice pm M.length cm) M) := HO.out.grown g4 hg
              have G4 : Hid (w.grownBy w4 (some g)) := HG.out.trans g4
              have S4 : Hid (SrcAt w4 g) := s4
              clear g4 s4 t4 HO HS HG
              by_cases hlt : (M.length : Int) < 7 + r2'
              · have q3 : decide ((M.length : Int) < 7 + r2') = true := by rw [decide_eq_true_iff]; exact hlt
                have hwr : IntKind.i64.wrap (10 + (j : Int)) = 10 + (j : Int) := by rw [IntKind.wrap_i64]; omega
                go_wp2_with fail
                refine (specDec_any (10 + (j : Int)) w4 (by omega) (by omega)).mono ?_
                rintro e w5 ⟨rfl, hb5⟩
                have O5 : Hid (SliceO w5 w.heap.size (.slice pm M.length cm) M) := O4.out.below hb5
                have G5 : Hid (w.grownBy w5 (some g)) := grown_of_below G4.out hb5
                have S5 : Hid (SrcAt w5 g) := S4.out.below hb5
                have hz5 := G5.out.size
                clear hb5 O4 G4 S4
                have hd := decB_size (n := 10 + (j : Int)) (by omega) (by omega)
                generalize decB (10 + (j : Int)) = d at *
                have hws : IntKind.i64.wrap ((j : Int) + 1) = (j : Int) + 1 := by rw [IntKind.wrap_i64]; omega
                go_wp2_with (at_builtin; go_must (refine wpList_append_own _ rfl _ _ 23 rfl w.heap.size 64 i0 (.agg #[.string ⟨#[]⟩, .string ⟨#[]⟩, .int .i64 0]) 3 40 Try.underlying23 hi hy0 hy1 hy2 rfl (by decide) _ _ _ rfl (row_kept (row := none) O5.out (World.grownBy_alloc _ _ _) (fun b e => by cases e)) ⟨w5.heap.size, 0, none⟩ 1 1 (grVals ⟨(⟨#[122]⟩ : ByteArray) ++ d, ⟨#[115]⟩, 99⟩) rfl rfl (cell_Gr _ ⟨(⟨#[122]⟩ : ByteArray) ++ d, ⟨#[115]⟩, 99⟩ _) (one_Gr _) (by unfold maxLen; omega) (by omega) (by simp; omega) ?_))
                intro v6 w6 ho6 hg6 _
                have O6 : Hid (SliceO w6 w.heap.size v6 (M ++ [⟨(⟨#[122]⟩ : ByteArray) ++ d, ⟨#[115]⟩, 99⟩])) := own_snocG ho6
                have hrow : ∀ b, (Value.slice pm M.length cm).ownBlock = some b → w.heap.size ≤ b := fun b e => (World.ownsRow.lt O5.out b e).1
                have G6 : Hid (w.grownBy w6 (some g)) := rows_grown G5.out (World.grownBy_alloc _ _ _) hg6 hrow
                have S6 : Hid (SrcAt w6 g) := (S5.out.alloc _).grown hg6 (fun b e => by have := hrow b e; omega)
                clear ho6 hg6 hrow
                go_wp2
                go_roundw
                case rel => exact ⟨j + 1, _, by simp; omega, by simp; omega, by go_num, O6, S6, G6⟩
                case measure => simp [intOf]; omega
              · have q3 : decide ((M.length : Int) < 7 + r2') = false := by rw [decide_eq_false_iff_not]; exact hlt
                go_wp2
                go_ret
                exact ⟨⟨_, M, rfl, O4.out.slice, hM⟩, S4.out, G4.out⟩
          · have q2 : decide (r' = 1) = false := by rw [decide_eq_false_iff_not]; exact e1
            cases L with
            | nil =>
              obtain ⟨pm, cm, hu⟩ : ∃ p c, u3 = .slice p 0 c := by obtain ⟨⟨p, cap, e, -⟩, -⟩ := O3.out.slice; exact ⟨p, cap, e⟩
              subst hu
              go_wp2
              go_ret
              exact ⟨⟨_, [], rfl, O3.out.slice, by simp⟩, S3.out, G3.out⟩
            | cons x T =>
              obtain ⟨gl, cm, hu, hgl⟩ : ∃ gl c, u3 = .slice (some ⟨gl, 0, none⟩) (T.length + 1) c ∧ w.heap.size ≤ gl := by
                obtain ⟨⟨p, cap, e, hc⟩, -⟩ := O3.out.slice
                obtain ⟨gl, e1, h1, -⟩ := hc (by simp)
                exact ⟨gl, cap, by rw [e, e1]; rfl, h1⟩
              subst hu
              have hL2 : T.length + 1 ≤ 8 := hL
              have HI : Hid (∀ (W : World) cs t, intsB cs 3 = true → IntsRow (W.alloc (.cells cs t)) W.heap.size 3) := fun W cs t h => ints_made W cs t 3 h
              go_wp2_with fail
              refine (srcN_any g 3 _ (S3.out.alloc _) (by decide)).mono ?_
              rintro e w4 ⟨r2', rfl, t3, t4, -, s4, g4⟩
              have t5 := t4 (by decide)
              obtain ⟨j, rfl⟩ : ∃ j : Nat, r2' = j := ⟨r2'.toNat, by omega⟩
              have hj : j < 3 := by omega
              obtain ⟨y, hy⟩ := (IntsRow.kept (HI.out _ _ _ (by rfl)) g4 (by intro e; injection e with e; omega)) j hj
              have O4 : Hid (SliceO w4 w.heap.size (.slice (some ⟨gl, 0, none⟩) (T.length + 1) cm) (x :: T)) := SliceO.grown (row_kept (row := none) O3.out (World.grownBy_alloc _ _ _) (fun b e => by cases e)) g4 hg
              have G4 : Hid (w.grownBy w4 (some g)) := G3.out.trans ((World.grownBy_alloc _ _ _).trans g4)
              have S4 : Hid (SrcAt w4 g) := s4
              obtain ⟨c2, f2⟩ : w4.cell? ⟨gl, 2, none⟩ = some (.int .i64 x.un) ∧ w4.frozen? ⟨gl, 2, none⟩ = false := by
                obtain ⟨⟨p, cap, e, hc⟩, -⟩ := O4.out.slice
                obtain ⟨g', e1, -, -, h3⟩ := hc (by simp)
                injection e with e
                rw [e1] at e
                injection e with e
                injection e with e
                subst e
                exact h3 0 (by simp) 2 (by omega)
              clear g4 s4 t4 HI O3 G3 S3
              go_wp2
              go_ret
              exact ⟨⟨_, _, rfl, O4.out.slice.setUn, Nat.le_trans hL2 (by decide)⟩, S4.out.grown (grown_setCell (grown_refl w4 (some gl)) _) (fun b e => by have := Option.some.inj e; omega), rows_grown G4.out (grown_refl w4 (some gl)) (grown_setCell (grown_refl w4 (some gl)) _) (fun b e => by have := Option.some.inj e; omega)⟩
end Go.Proofs.Ytecaeolgheefmaa

/- Askings of grants, as plain functions. -/
namespace Go.Proofs.Ytecaeolgheefmaa
open Go.RowKit

/-- who asks -/
structure Aq where
  tp : ByteArray
  si : ByteArray
  tc : Bool
  sa : Bool
  re : Bool
  ye : Bool
def aqV (a : Aq) : Value := .agg #[.string a.tp, .string a.si, .bool a.tc, .bool a.sa, .bool a.re, .bool a.ye]
/-- does a site go by https? -/
def httpsB (s : ByteArray) : Bool := Lib.hasPrefix s.data.toList [104, 116, 116, 112, 115, 58, 47, 47]
/-- nothing new is wanted -/
def freeG (L : List Gr) (a : Aq) (now : Int) : Bool := (a.tp.toList == a.si.toList) || hereG L a.tp a.si now
def askR (L : List Gr) (a : Aq) (now : Int) : GO :=
  if freeG L a now = true then ⟨L, false, 0⟩
  else if (a.sa || !(httpsB a.si)) = true then noG 11
  else if a.tc = false then noG 10
  else if (!a.re && !a.ye) = true then ⟨L, true, 11⟩
  else ⟨(putR L a.tp a.si now).ar, true, (putR L a.tp a.si now).co⟩
def askG (L : List Gr) (a : Aq) (now : Int) : GO := if L.length ≤ 400 then (if mayG L a.tp a.si now = true then askR L a now else noG 1) else noG 2
theorem put_may {L : List Gr} {tp si : ByteArray} {now : Int} (h : mayG L tp si now = true) : putG L tp si now = putR L tp si now := by
  unfold putG; rw [if_pos (begin_may h)]
theorem https_short {s : ByteArray} (h : s.size < 8) : httpsB s = false := by
  unfold httpsB
  cases hq : Lib.hasPrefix s.data.toList [104, 116, 116, 112, 115, 58, 47, 47] with
  | false => rfl
  | true =>
    unfold Lib.hasPrefix at hq
    have h1 : s.data.toList.length < 8 := by rw [Array.length_toList]; exact h
    rw [List.isPrefixOf_iff_prefix] at hq
    have := hq.length_le
    simp at this
    omega
theorem https_cut (s : ByteArray) : ((s.extract 0 8).toList == [104, 116, 116, 112, 115, 58, 47, 47]) = httpsB s := by
  unfold httpsB Lib.hasPrefix
  rw [Lib.toList_data]
  have e : (s.extract 0 8).data.toList = s.data.toList.take 8 := by simp [ByteArray.data_extract]
  rw [e, Bool.eq_iff_iff, beq_iff_eq, List.isPrefixOf_iff_prefix, List.prefix_iff_eq_take]
  exact eq_comm
theorem askR_len {L : List Gr} {a : Aq} {now : Int} (h : L.length ≤ 8) : (askR L a now).ar.length ≤ 8 := by
  unfold askR
  split
  · exact h
  · split
    · exact Nat.zero_le _
    · split
      · exact Nat.zero_le _
      · split
        · exact h
        · exact putR_len _ _ _ _
theorem askG_len (L : List Gr) (a : Aq) (now : Int) : (askG L a now).ar.length ≤ 8 := by
  unfold askG
  split
  · split
    · rename_i h
      exact askR_len (grantsB_parts (mayG_parts h).1).1
    · exact Nat.zero_le _
  · exact Nat.zero_le _
end Go.Proofs.Ytecaeolgheefmaa

/- The laws' markGrantS and heldGrantS over slices of grants. Written by rowsmark.py. -/
namespace Go.Proofs.Ytecaeolgheefmaa
open Go.RowKit

/-- the mark of a cell, of one whose first number is z -/
def markGrZ (z o : Nat) : Value := if o = 0 then .string (markT (z + 0)) else if o = 1 then .string (markT (z + 1)) else .int .i64 ((z : Int) + 1 + 1)
def markGrC (q j o : Nat) : Value := markGrZ (q + j * 3) o
def markedG (f : Nat → Nat → Value) (q k j o : Nat) : Value := if j < k then markGrC q j o else f j o
theorem SliceR.atGr {w : World} {B n m g cap : Nat} {f : Nat → Nat → Value} (hs : SliceR w B 3 (.slice (some ⟨g, 0, none⟩) m cap) n f) (k : Nat) (hk : k < n) : ∀ o, o < 3 → w.cell? ⟨g, k * 3 + o, none⟩ = some (f k o) ∧ w.frozen? ⟨g, k * 3 + o, none⟩ = false := by
  obtain ⟨p', cap', e, hh⟩ := hs
  injection e with e1
  obtain ⟨g', e2, -, -, hc⟩ := hh (by omega)
  rw [e2] at e1
  injection e1 with e1
  injection e1 with e1
  subst e1
  exact hc k hk
set_option maxRecDepth 10000 in
set_option maxHeartbeats 8000000 in
theorem markGrantS_any (a : Value) (n B q : Nat) (f : Nat → Nat → Value) (w : World) (ha : SliceR w B 3 a n f) (hn : n ≤ 1048576) (hq : 0 < q) (hq2 : q ≤ 20971520) :
    Calls Try.prog 33 #[a, .int .i64 (q : Int)] w fun e w' => e = .returned (.int .i64 ((q + n * 3 : Nat) : Int)) ∧ SliceR w' B 3 a n (markGrC q) ∧ (∀ G, (0 < n → a.ownBlock = some G) → w.grownBy w' (some G)) := by
  have HA : Hid (SliceR w B 3 a n f) := ha
  obtain ⟨p, cap, rfl, h1⟩ := ha
  have HG : Hid (0 < n → ∃ g, p = some ⟨g, 0, none⟩ ∧ B ≤ g ∧ g < w.heap.size) := fun h => by
    obtain ⟨g, e, h2, h3, -⟩ := h1 h
    exact ⟨g, e, h2, h3⟩
  clear h1
  have HM : Hid (∀ (m : Nat) (W : World), 0 < m → m ≤ 9223372036854775807 → Calls Try.prog 72 #[.int .i64 (m : Int)] W fun e w' => e = .returned (.string (markT m)) ∧ Below W.heap.size W w') := fun m W h1 h2 => markText_any m W h1 h2
  go_enter Try.func33, Try.ntmps33
  go_wp2
  go_loopw [1, 5] (fun kk i wr => ∃ k : Nat, k ≤ n ∧ i = .int .i64 k ∧ kk = .int .i64 ((q + k * 3 : Nat) : Int) ∧ Hid (SliceR wr B 3 (.slice p n cap) n (markedG f q k)) ∧ Hid (∀ G, (0 < n → (Value.slice p n cap).ownBlock = some G) → w.grownBy wr (some G))) (fun _ i _ => n - (intOf i).toNat)
  case atStart => exact ⟨0, by omega, rfl, by go_num, HA, fun _ _ => ⟨rfl, rfl, rfl, Nat.le_refl _, fun _ _ _ => rfl⟩⟩
  case round =>
    obtain ⟨k, hk, rfl, rfl, HR, HB⟩ := hrel
    by_cases hlt : k < n
    · obtain ⟨g, rfl, hBg, hgw⟩ := HG.out (by omega)
      have k0 : (0 : Int) ≤ k := by omega
      have k1 : (k : Int) < n := by omega
      have B0 : Hid (w.grownBy wr (some g)) := HB.out g (fun _ => rfl)
      have hzb : q + k * 3 ≤ 50000000 := by omega
      have hz0 : 0 < q + k * 3 := by omega
      have HEnd : Hid (∀ w', SliceR w' B 3 (.slice (some ⟨g, 0, none⟩) n cap) n (fun j o => if j = k then markGrZ (q + k * 3) o else markedG f q k j o) → SliceR w' B 3 (.slice (some ⟨g, 0, none⟩) n cap) n (markedG f q (k + 1))) := fun w' h => SliceR.congr h (fun j hj o ho => by
        unfold markedG markGrC
        by_cases e : j = k
        · subst e; rw [if_pos rfl, if_pos (by omega)]
        · rw [if_neg e]
          by_cases h : j < k
          · rw [if_pos h, if_pos (by omega)]
          · rw [if_neg h, if_neg (by omega)])
      have hnx : ((q + k * 3 : Nat) : Int) + 3 = ((q + (k + 1) * 3 : Nat) : Int) := by omega
      have HNX : Hid (((q + k * 3 : Nat) : Int) + 3 = ((q + (k + 1) * 3 : Nat) : Int)) := hnx
      clear hnx
      generalize markedG f q k = fm at *
      generalize q + k * 3 = zn at *
      have HN0 : Hid (∀ W, Calls Try.prog 72 #[.int .i64 ((zn : Int))] W fun e w' => e = .returned (.string (markT (zn + 0))) ∧ Below W.heap.size W w') := fun W => by
        have h := HM.out (zn + 0) W (by omega) (by omega)
        have e : ((zn + 0 : Nat) : Int) = (zn : Int) := by omega
        rw [e] at h; exact h
      have HN1 : Hid (∀ W, Calls Try.prog 72 #[.int .i64 ((zn : Int) + 1)] W fun e w' => e = .returned (.string (markT (zn + 1))) ∧ Below W.heap.size W w') := fun W => by
        have h := HM.out (zn + 1) W (by omega) (by omega)
        have e : ((zn + 1 : Nat) : Int) = (zn : Int) + 1 := by omega
        rw [e] at h; exact h
      have X0 : Hid (SliceR wr B 3 (.slice (some ⟨g, 0, none⟩) n cap) n fm) := HR
      clear HM HR HB
      go_wp2_with fail
      refine (HN0.out _).mono ?_
      rintro e u1 ⟨rfl, hb1⟩
      have S1 : Hid (SliceR u1 B 3 (.slice (some ⟨g, 0, none⟩) n cap) n fm) := SliceR.below (X0.out) hb1
      have G1 : Hid (w.grownBy u1 (some g)) := grownG_below (B0.out) hb1
      clear hb1
      have hx0 := (SliceR.atGr S1.out k hlt 0 (by omega)).1
      have hf0 := (SliceR.atGr S1.out k hlt 0 (by omega)).2
      rw [Nat.add_zero] at hx0 hf0
      generalize fm k 0 = y0 at hx0
      go_wp2_with fail
      refine (HN1.out _).mono ?_
      rintro e u2 ⟨rfl, hb2⟩
      have S2 : Hid (SliceR u2 B 3 (.slice (some ⟨g, 0, none⟩) n cap) n (updR fm k 0 (.string (markT (zn + 0))))) := SliceR.below (SliceR.set (S1.out) k 0 hlt (by omega) (.string (markT (zn + 0)))) hb2
      have G2 : Hid (w.grownBy u2 (some g)) := grownG_below (grownG_set (G1.out) (k * 3 + 0) (.string (markT (zn + 0)))) hb2
      clear hb2 hx0 hf0
      have hx1 := (SliceR.atGr S2.out k hlt 1 (by omega)).1
      have hf1 := (SliceR.atGr S2.out k hlt 1 (by omega)).2
      generalize (updR fm k 0 (.string (markT (zn + 0)))) k 1 = y1 at hx1
      have hx2 := (SliceR.atGr S2.out k hlt 2 (by omega)).1
      have hf2 := (SliceR.atGr S2.out k hlt 2 (by omega)).2
      generalize (updR fm k 0 (.string (markT (zn + 0)))) k 2 = y2 at hx2
      go_wp2
      go_roundw
      case rel =>
        refine ⟨k + 1, by omega, by go_num, val_int (by have := HNX.out; omega), ?_, ?_⟩
        · refine HEnd.out _ (SliceR.congr (SliceR.set (SliceR.set (S2.out) k 1 hlt (by omega) (.string (markT (zn + 1)))) k 2 hlt (by omega) (.int .i64 ((zn : Int) + 1 + 1))) (fun j hj o ho => ?_))
          by_cases e : j = k
          · subst e
            rw [if_pos rfl]
            match o, ho with
            | 0, _ => simp [updR, markGrZ]
            | 1, _ => simp [updR, markGrZ]
            | 2, _ => simp [updR, markGrZ]
          · simp [updR, e]
        · intro G hG
          obtain rfl : g = G := Option.some.inj (hG (by omega))
          exact grownG_set (grownG_set (G2.out) (k * 3 + 1) (.string (markT (zn + 1)))) (k * 3 + 2) (.int .i64 ((zn : Int) + 1 + 1))
      case measure => simp [intOf]; omega
    · obtain rfl : k = n := by omega
      have HS : Hid (SliceR wr B 3 (.slice p k cap) k (markGrC q)) := SliceR.congr HR.out (fun j hj o ho => by unfold markedG; rw [if_pos hj])
      go_wp2
      go_ret
      exact ⟨rfl, HS.out, HB.out⟩
set_option maxRecDepth 10000 in
set_option maxHeartbeats 8000000 in
theorem heldGrantS_any (a : Value) (n B q : Nat) (w : World) (ha : SliceR w B 3 a n (markGrC q)) (hn : n ≤ 1048576) (hq : 0 < q) (hq2 : q ≤ 20971520) :
    Calls Try.prog 36 #[a, .int .i64 (q : Int)] w fun e w' => e = .returned (.int .i64 ((q + n * 3 : Nat) : Int)) ∧ Below w.heap.size w w' := by
  obtain ⟨p, cap, rfl, h1⟩ := ha
  have HG : Hid (0 < n → ∃ g, p = some ⟨g, 0, none⟩ ∧ B ≤ g ∧ g < w.heap.size ∧ ∀ j, j < n → ∀ o, o < 3 → w.cell? ⟨g, j * 3 + o, none⟩ = some (markGrC q j o) ∧ w.frozen? ⟨g, j * 3 + o, none⟩ = false) := h1
  clear h1
  have HM : Hid (∀ (m : Nat) (W : World), 0 < m → m ≤ 9223372036854775807 → Calls Try.prog 72 #[.int .i64 (m : Int)] W fun e w' => e = .returned (.string (markT m)) ∧ Below W.heap.size W w') := fun m W h1 h2 => markText_any m W h1 h2
  go_enter Try.func36, Try.ntmps36
  go_wp2
  go_loopw [1, 4, 5] (fun kk r i wr => ∃ k : Nat, k ≤ n ∧ i = .int .i64 k ∧ kk = .int .i64 ((q + k * 3 : Nat) : Int) ∧ Hid (Below w.heap.size w wr)) (fun _ _ i _ => n - (intOf i).toNat)
  case atStart => exact ⟨0, by omega, rfl, by go_num, Below.refl _ _⟩
  case round =>
    obtain ⟨k, hk, rfl, rfl, HB⟩ := hrel
    by_cases hlt : k < n
    · obtain ⟨g, rfl, -, hg, hc⟩ := HG.out (by omega)
      have k0 : (0 : Int) ≤ k := by omega
      have k1 : (k : Int) < n := by omega
      have hgr : g < wr.heap.size := Nat.lt_of_lt_of_le hg HB.out.size
      have hzb : q + k * 3 ≤ 50000000 := by omega
      have hz0 : 0 < q + k * 3 := by omega
      have hx : ∀ o, o < 3 → wr.cell? ⟨g, k * 3 + o, none⟩ = some (markGrZ (q + k * 3) o) := fun o ho => by rw [(bcell HB.out).1 _ _ hg]; exact (hc k hlt o ho).1
      have HNX : Hid (((q + k * 3 : Nat) : Int) + 3 = ((q + (k + 1) * 3 : Nat) : Int)) := by show _ = _; omega
      clear hc
      generalize q + k * 3 = zn at *
      have c0 : wr.cell? ⟨g, k * 3, none⟩ = some (.string (markT (zn + 0))) := hx 0 (by omega)
      have c1 : wr.cell? ⟨g, k * 3 + 1, none⟩ = some (.string (markT (zn + 1))) := hx 1 (by omega)
      have c2 : wr.cell? ⟨g, k * 3 + 2, none⟩ = some (.int .i64 ((zn : Int) + 1 + 1)) := hx 2 (by omega)
      have HN0 : Hid (∀ W, Calls Try.prog 72 #[.int .i64 ((zn : Int))] W fun e w' => e = .returned (.string (markT (zn + 0))) ∧ Below W.heap.size W w') := fun W => by
        have h := HM.out (zn + 0) W (by omega) (by omega)
        have e : ((zn + 0 : Nat) : Int) = (zn : Int) := by omega
        rw [e] at h; exact h
      have HN1 : Hid (∀ W, Calls Try.prog 72 #[.int .i64 ((zn : Int) + 1)] W fun e w' => e = .returned (.string (markT (zn + 1))) ∧ Below W.heap.size W w') := fun W => by
        have h := HM.out (zn + 1) W (by omega) (by omega)
        have e : ((zn + 1 : Nat) : Int) = (zn : Int) + 1 := by omega
        rw [e] at h; exact h
      generalize markT (zn + 0) = t0 at *
      generalize markT (zn + 1) = t1 at *
      clear hx HM
      go_wp2_with fail
      go_region_held3 (fun w' => w'.cell? ⟨g, k * 3, none⟩ = some (.string t0) ∧ w'.cell? ⟨g, k * 3 + 1, none⟩ = some (.string t1) ∧ w'.cell? ⟨g, k * 3 + 2, none⟩ = some (.int .i64 ((zn : Int) + 1 + 1))) (go_keep)
        (first | (go_at_call 72; refine (HN0.out _).mono ?_; rintro e u1 ⟨rfl, hb1⟩; have A1 : Below wr.heap.size wr u1 := (Below.drew (Below.refl _ _)).trans hb1; have g1 : g < u1.heap.size := Nat.lt_of_lt_of_le hgr A1.size; have E1 : Hid (Below w.heap.size w u1) := HB.out.trans (A1.mono HB.out.size); have d1_0 : u1.cell? ⟨g, k * 3, none⟩ = some (.string t0) := ((bcell A1).1 _ _ hgr).trans c0; have d1_1 : u1.cell? ⟨g, k * 3 + 1, none⟩ = some (.string t1) := ((bcell A1).1 _ _ hgr).trans c1; have d1_2 : u1.cell? ⟨g, k * 3 + 2, none⟩ = some (.int .i64 ((zn : Int) + 1 + 1)) := ((bcell A1).1 _ _ hgr).trans c2))
      clear hb1 A1 c0 c1 c2
      go_wp2_with fail
      go_region_held3 (fun w' => w'.cell? ⟨g, k * 3 + 1, none⟩ = some (.string t1) ∧ w'.cell? ⟨g, k * 3 + 2, none⟩ = some (.int .i64 ((zn : Int) + 1 + 1))) (go_keep)
        (first | (go_at_call 72; refine (HN1.out _).mono ?_; rintro e u2 ⟨rfl, hb2⟩; have A2 : Below u1.heap.size u1 u2 := (Below.drew (Below.refl _ _)).trans hb2; have g2 : g < u2.heap.size := Nat.lt_of_lt_of_le g1 A2.size; have E2 : Hid (Below w.heap.size w u2) := E1.out.trans (A2.mono E1.out.size); have d2_1 : u2.cell? ⟨g, k * 3 + 1, none⟩ = some (.string t1) := ((bcell A2).1 _ _ g1).trans d1_1; have d2_2 : u2.cell? ⟨g, k * 3 + 2, none⟩ = some (.int .i64 ((zn : Int) + 1 + 1)) := ((bcell A2).1 _ _ g1).trans d1_2))
      clear hb2 A2 d1_0 d1_1 d1_2
      go_wp2
      go_roundw
      case rel => exact ⟨k + 1, by omega, by go_num, val_int (by have := HNX.out; omega), E2⟩
      case measure => simp [intOf]; omega
    · obtain rfl : k = n := by omega
      go_wp2
      go_ret
      exact ⟨rfl, HB.out⟩
end Go.Proofs.Ytecaeolgheefmaa

/- Slices of structs while others are marked. -/
namespace Go.Proofs.Ytecaeolgheefmaa
open Go.RowKit

theorem SliceR.place {w : World} {B sz n : Nat} {v : Value} {f : Nat → Nat → Value} (h : SliceR w B sz v n f) : 0 < n → ∃ g, v.ownBlock = some g ∧ B ≤ g ∧ g < w.heap.size := by
  obtain ⟨p, cap, rfl, h⟩ := h
  intro hn
  obtain ⟨g, rfl, hB, hg, -⟩ := h hn
  exact ⟨g, rfl, hB, hg⟩
theorem SliceR.keepG {w w' : World} {B sz n G : Nat} {v : Value} {f : Nat → Nat → Value} (h : SliceR w B sz v n f) (hg : w.grownBy w' (some G)) (hne : 0 < n → ∃ g, v.ownBlock = some g ∧ g ≠ G) : SliceR w' B sz v n f := by
  obtain ⟨p, cap, rfl, h⟩ := h
  refine ⟨p, cap, rfl, fun hn => ?_⟩
  obtain ⟨g, rfl, hB, hgw, hc⟩ := h hn
  obtain ⟨g', e, hn'⟩ := hne hn
  obtain rfl : g = g' := Option.some.inj e
  have hb : w'.heap[g]? = w.heap[g]? := hg.block g hgw (fun e => hn' (Option.some.inj e))
  refine ⟨g, rfl, hB, Nat.lt_of_lt_of_le hgw hg.size, fun j hj o ho => ⟨?_, ?_⟩⟩
  · rw [World.cell?_of_block (a := ⟨g, j * sz + o, none⟩) hb]; exact (hc j hj o ho).1
  · rw [World.frozen?_of_block (a := ⟨g, j * sz + o, none⟩) hb]; exact (hc j hj o ho).2
end Go.Proofs.Ytecaeolgheefmaa

/- Slices of grants while others are marked. -/
namespace Go.Proofs.Ytecaeolgheefmaa
open Go.RowKit

theorem SliceG.keepG {w w' : World} {B G : Nat} {v : Value} {L : List Gr} (h : SliceG w B v L) (hg : w.grownBy w' (some G)) (hne : 0 < L.length → ∃ g, v.ownBlock = some g ∧ g ≠ G) : SliceG w' B v L := ⟨h.1.keepG hg hne, h.2⟩
theorem markG_call (a : Value) (L : List Gr) (B : Nat) (w : World) (ha : SliceG w B a L) (hB : B ≤ w.heap.size) (hn : L.length ≤ 1048576) :
    Calls Try.prog 33 #[a, .int .i64 1] w fun e w' => e = .returned (.int .i64 ((1 + L.length * 3 : Nat) : Int)) ∧ SliceR w' B 3 a L.length (markGrC 1) ∧ ∃ G, B ≤ G ∧ (0 < L.length → a.ownBlock = some G) ∧ (¬ 0 < L.length → w.heap.size ≤ G) ∧ w.grownBy w' (some G) := by
  refine (markGrantS_any a L.length B 1 _ w ha.1 hn (by decide) (by decide)).mono ?_
  rintro e w' ⟨rfl, h2, h3⟩
  refine ⟨rfl, h2, ?_⟩
  by_cases h0 : 0 < L.length
  · obtain ⟨g, e, hBg, -⟩ := ha.1.place h0
    exact ⟨g, hBg, fun _ => e, fun h => absurd h0 h, h3 g (fun _ => e)⟩
  · exact ⟨w.heap.size, hB, fun h => absurd h h0, fun _ => Nat.le_refl _, h3 _ (fun h => absurd h h0)⟩
end Go.Proofs.Ytecaeolgheefmaa
