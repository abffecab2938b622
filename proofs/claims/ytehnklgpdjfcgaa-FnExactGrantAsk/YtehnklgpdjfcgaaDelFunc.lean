/- The walks of the library's IndexFunc, ContainsFunc and DeleteFunc at grants, over the program's predicates. Written by delfunc.py. -/
import Derived.Test.YtehnklgpdjfcgaaLeaveT
import Derived.Test.YtehnklgpdjfcgaaClearK
import Derived.Test.YtehnklgpdjfcgaaPlacedG
import Derived.Test.YtehnklgpdjfcgaaImplLeave
import Derived.Deep.RegionHeld3
import Derived.Deep.DeepCutAuto
namespace Go.Proofs.Ytehnklgpdjfcgaa
open Go.RowKit

theorem any_yes {p : Gr → Bool} {L : List Gr} {k : Nat} (hk : k < L.length) (h : p (atG L k) = true) : L.any p = true :=
  List.any_eq_true.2 ⟨atG L k, by rw [atG_get hk]; exact List.getElem_mem hk, h⟩
theorem any_no {p : Gr → Bool} {L : List Gr} (h : ∀ j, j < L.length → p (atG L j) = false) : L.any p = false := by
  refine List.any_eq_false.2 fun x hx => ?_
  obtain ⟨j, hj, rfl⟩ := List.mem_iff_getElem.1 hx
  have := h j hj
  rw [atG_get hj] at this
  rw [this]; decide
theorem keep_same {p : Gr → Bool} {L : List Gr} {k : Nat} (hk : k ≤ L.length) (h : ∀ j, j < k → p (atG L j) = true) : keepG p L k = L.take k := by
  unfold keepG
  rw [List.filter_eq_self]
  intro x hx
  obtain ⟨j, hj, rfl⟩ := List.mem_iff_getElem.1 hx
  have h1 : j < k := by rw [List.length_take] at hj; omega
  have := h j h1
  rw [atG_get (by omega)] at this
  rw [List.getElem_take]; exact this
theorem atG_take {L : List Gr} {k j : Nat} (hk : k ≤ L.length) (hj : j < k) : atG (L.take k) j = atG L j := by
  rw [atG_get (by rw [List.length_take]; omega), atG_get (by omega), List.getElem_take]
theorem atG_snoc {L : List Gr} {x : Gr} {j : Nat} : atG (L ++ [x]) j = if j < L.length then atG L j else if j = L.length then x else grNone := by
  unfold atG
  rw [List.getD_eq_getElem?_getD, List.getD_eq_getElem?_getD]
  by_cases h : j < L.length
  · rw [if_pos h, List.getElem?_append_left h]
  · rw [if_neg h, List.getElem?_append_right (by omega)]
    by_cases e : j = L.length
    · rw [if_pos e, e]; simp
    · rw [if_neg e, List.getElem?_eq_none (by simp; omega)]; rfl
set_option maxRecDepth 10000 in
set_option maxHeartbeats 4000000 in
theorem indexOld_any (now : Int) (q : Option Addr) (cap B : Nat) (L : List Gr) (w : World) (hs : SliceG w B (.slice q L.length cap) L) (hn : L.length ≤ 1048576)
    (KP : ∀ (c : Gr) (W : World), Below w.heap.size w W → Calls Try.prog 45 #[.int .i64 now, grV c] W fun e w' => e = .returned (.bool ((fun g => !(liveG now g)) c)) ∧ Below W.heap.size W w') :
    Calls Try.prog 72 #[.slice q L.length cap, .func (.func 45) #[.int .i64 now] #[]] w fun e w' => ((∃ k, k < L.length ∧ e = .returned (.int .i64 (k : Nat)) ∧ (fun g => !(liveG now g)) (atG L k) = true ∧ ∀ j, j < k → (fun g => !(liveG now g)) (atG L j) = false) ∨ (e = .returned (.int .i64 (-1)) ∧ ∀ j, j < L.length → (fun g => !(liveG now g)) (atG L j) = false)) ∧ Below w.heap.size w w' := by
  obtain ⟨⟨q', cap', e1, hg⟩, -⟩ := hs
  injection e1 with e1 _ e3
  subst e1 e3
  have HG : Hid (0 < L.length → ∃ g, q = some ⟨g, 0, none⟩ ∧ g < w.heap.size ∧ ∀ j, j < L.length → ∀ o, o < 3 → w.cell? ⟨g, j * 3 + o, none⟩ = some (grC (atG L j) o)) := fun h0 => by
    obtain ⟨g, e, -, hgw, hc⟩ := hg h0
    exact ⟨g, e, hgw, fun j hj o ho => (hc j hj o ho).1⟩
  have KH : Hid (∀ (c : Gr) (W : World), Below w.heap.size w W → Calls Try.prog 45 #[.int .i64 now, grV c] W fun e w' => e = .returned (.bool ((fun g => !(liveG now g)) c)) ∧ Below W.heap.size W w') := KP
  clear hg KP
  generalize hpp : (fun g => !(liveG now g)) = pr at *
  clear hpp
  go_enter Try.func72, Try.ntmps72
  go_wp2
  go_loopw [8] (fun i wr => ∃ j : Nat, j ≤ L.length ∧ i = .int .i64 j ∧ Hid (Below w.heap.size w wr) ∧ Hid (∀ i', i' < j → pr (atG L i') = false)) (fun i _ => L.length - (intOf i).toNat)
  case atStart => exact ⟨0, Nat.zero_le _, rfl, Below.refl _ _, fun j hj => absurd hj (by omega)⟩
  case round =>
    obtain ⟨j, hj, rfl, HB, HR⟩ := hrel
    by_cases hlt : j < L.length
    · obtain ⟨g, rfl, hgw, hc⟩ := HG.out (by omega)
      have j0 : (0 : Int) ≤ j := by omega
      have j1 : (j : Int) < L.length := by omega
      have HN1 : Hid (pr (atG L j) = false → ∀ i', i' < j + 1 → pr (atG L i') = false) := fun e i' hi' => by
        by_cases e2 : i' = j
        · subst e2; exact e
        · exact HR.out i' (by omega)
      have HS0 : Hid (∀ W, Below w.heap.size w W → Calls Try.prog 45 #[.int .i64 now, .agg #[.string (atG L j).tp, .string (atG L j).si, .int .i64 (atG L j).un]] W fun e w' => e = .returned (.bool (pr (atG L j))) ∧ Below W.heap.size W w') := fun W h => KH.out (atG L j) W h
      have c0 : wr.cell? ⟨g, j * 3, none⟩ = some (.string (atG L j).tp) := by rw [(bcell HB.out).1 _ _ hgw]; exact hc j hlt 0 (by omega)
      have c1 : wr.cell? ⟨g, j * 3 + 1, none⟩ = some (.string (atG L j).si) := by rw [(bcell HB.out).1 _ _ hgw]; exact hc j hlt 1 (by omega)
      have c2 : wr.cell? ⟨g, j * 3 + 2, none⟩ = some (.int .i64 (atG L j).un) := by rw [(bcell HB.out).1 _ _ hgw]; exact hc j hlt 2 (by omega)
      have HBA : Hid (∀ o, Below w.heap.size w (wr.alloc o)) := fun o => HB.out.alloc HB.out.size _
      clear hc KH
      generalize hsm : pr (atG L j) = sm at *
      have HSM : Hid (pr (atG L j) = sm) := hsm
      clear hsm
      have HKK : Hid (∀ i', i' < j → pr (atG L i') = false) := HR.out
      generalize hyy : atG L j = y at *
      obtain ⟨tp', si', un'⟩ := y
      dsimp only at *
      go_wp2_with fail
      refine (HS0.out _ (by first | exact HB.out | exact HBA.out _)).mono ?_
      rintro e w2 ⟨rfl, hb2⟩
      have B2 : Hid (Below w.heap.size w w2) := by first | exact HB.out.trans (hb2.mono HB.out.size) | exact (HBA.out _).trans (hb2.mono (HBA.out _).size)
      clear hb2
      cases sm with
      | true =>
        go_wp2
        go_ret
        exact ⟨.inl ⟨j, hlt, rfl, by rw [hyy]; exact HSM.out, HKK.out⟩, B2.out⟩
      | false =>
        have HN2 : Hid (∀ i', i' < j + 1 → pr (atG L i') = false) := HN1.out rfl
        go_wp2
        go_roundw
        case rel => exact ⟨j + 1, by omega, by go_num, B2, HN2⟩
        case measure => simp [intOf]; omega
    · go_wp2
      go_ret
      exact ⟨.inr ⟨rfl, fun i hi => HR.out i (by omega)⟩, HB.out⟩
set_option maxRecDepth 10000 in
set_option maxHeartbeats 8000000 in
theorem deleteOld_any (now : Int) (v : Value) (B : Nat) (L : List Gr) (w : World) (hs : SliceG w B v L) (hB : B ≤ w.heap.size) (hn : L.length ≤ 1000)
    (KP : ∀ (c : Gr) (W : World), Below B w W → Calls Try.prog 45 #[.int .i64 now, grV c] W fun e w' => e = .returned (.bool ((fun g => !(liveG now g)) c)) ∧ Below W.heap.size W w') :
    Calls Try.prog 42 #[v, .func (.func 45) #[.int .i64 now] #[]] w fun e w' => ∃ v', e = .returned v' ∧ SliceG w' B v' (L.filter (fun g => !((fun g => !(liveG now g)) g))) ∧ Below B w w' := by
  have HSg : Hid (SliceG w B v L) := hs
  obtain ⟨⟨q, cap, rfl, hg⟩, q2, cap2, e2, hcap, hqn⟩ := hs
  injection e2 with e3 _ e4
  subst e3 e4
  have KI : Hid (Calls Try.prog 72 #[.slice q L.length cap, .func (.func 45) #[.int .i64 now] #[]] w fun e w' => ((∃ k, k < L.length ∧ e = .returned (.int .i64 (k : Nat)) ∧ (fun g => !(liveG now g)) (atG L k) = true ∧ ∀ j, j < k → (fun g => !(liveG now g)) (atG L j) = false) ∨ (e = .returned (.int .i64 (-1)) ∧ ∀ j, j < L.length → (fun g => !(liveG now g)) (atG L j) = false)) ∧ Below w.heap.size w w') := indexOld_any now q cap B L w HSg.out (by omega) (fun c W h => KP c W (h.mono hB))
  have KH : Hid (∀ (c : Gr) (W : World), Below B w W → Calls Try.prog 45 #[.int .i64 now, grV c] W fun e w' => e = .returned (.bool ((fun g => !(liveG now g)) c)) ∧ Below W.heap.size W w') := KP
  have HGr : Hid (0 < L.length → ∃ g, q = some ⟨g, 0, none⟩ ∧ B ≤ g ∧ g < w.heap.size) := fun h0 => by
    obtain ⟨g, e, h1, h2, -⟩ := hg h0
    exact ⟨g, e, h1, h2⟩
  have HAll : Hid ((∀ j, j < L.length → (fun g => !(liveG now g)) (atG L j) = false) → L.filter (fun g => !((fun g => !(liveG now g)) g)) = L) := fun h => by
    refine List.filter_eq_self.2 fun x hx => ?_
    obtain ⟨j, hj, rfl⟩ := List.mem_iff_getElem.1 hx
    have := h j hj
    rw [atG_get hj] at this
    show (!_) = true
    rw [this]; rfl
  have HFil : Hid (keepG (fun g => !((fun g => !(liveG now g)) g)) L L.length = L.filter (fun g => !((fun g => !(liveG now g)) g))) := keepG_all _ L
  have HYs : Hid (∀ k, k < L.length → (fun g => !(liveG now g)) (atG L k) = false → keepG (fun g => !((fun g => !(liveG now g)) g)) L (k + 1) = keepG (fun g => !((fun g => !(liveG now g)) g)) L k ++ [atG L k]) := fun k hk h => keepG_yes hk (by show (!_) = true; rw [h]; rfl)
  have HNs : Hid (∀ k, k < L.length → (fun g => !(liveG now g)) (atG L k) = true → keepG (fun g => !((fun g => !(liveG now g)) g)) L (k + 1) = keepG (fun g => !((fun g => !(liveG now g)) g)) L k) := fun k hk h => keepG_no hk (by show (!_) = false; rw [h]; rfl)
  have HFirst : Hid (∀ k, k < L.length → (fun g => !(liveG now g)) (atG L k) = true → (∀ j, j < k → (fun g => !(liveG now g)) (atG L j) = false) → keepG (fun g => !((fun g => !(liveG now g)) g)) L (k + 1) = L.take k) := fun k hk h h2 => by
    rw [keepG_no hk (by show (!_) = false; rw [h]; rfl)]
    exact keep_same (by omega) (fun j hj => by show (!_) = true; rw [h2 j hj]; rfl)
  clear hg KP
  generalize L.filter (fun g => !((fun g => !(liveG now g)) g)) = Z at *
  generalize hpk : keepG (fun g => !((fun g => !(liveG now g)) g)) = kp at *
  clear hpk
  generalize hpp : (fun g => !(liveG now g)) = pr at *
  clear hpp
  go_enter Try.func42, Try.ntmps42
  go_wp2_with fail
  refine KI.out.mono ?_
  rintro e w1 ⟨⟨k, hk, rfl, hp, hbf⟩ | ⟨rfl, hp⟩, hb1⟩
  · obtain ⟨g, rfl, hBg, hgw⟩ := HGr.out (by omega)
    have hkeep : kp L (k + 1) = L.take k := HFirst.out k hk hp hbf
    have S1 : Hid (SliceR w1 B 3 (.slice (some ⟨g, 0, none⟩) L.length cap) L.length (fun j o => grC (atG L j) o)) := (HSg.out.1).below hb1
    have hgw1 : g < w1.heap.size := Nat.lt_of_lt_of_le hgw hb1.size
    have B1 : Hid (Below B w w1) := hb1.mono hB
    have HSt : Hid (∃ cur : Nat → Gr, SliceR w1 B 3 (.slice (some ⟨g, 0, none⟩) L.length cap) L.length (fun j o => grC (cur j) o) ∧ (∀ t, t < k → cur t = atG (kp L (k + 1)) t) ∧ ∀ t, k + 1 ≤ t → t < L.length → cur t = atG L t) := ⟨atG L, S1.out, fun t ht => by rw [hkeep, atG_take (by omega) ht], fun t _ _ => rfl⟩
    have hkl : (kp L (k + 1)).length = k := by rw [hkeep, List.length_take]; omega
    have qk : ((k : Int) == -1) = false := beq_eq_false_iff_ne.2 (by omega)
    clear hb1 hp hbf KI HSg S1 HFirst HAll HGr hkeep
    go_wp2
    go_loopw [5, 6] (fun i j wr => ∃ ii jj : Nat, i = .int .i64 ii ∧ j = .int .i64 jj ∧ ii < jj ∧ jj ≤ L.length ∧ (kp L jj).length = ii ∧ g < wr.heap.size ∧ Hid (∃ cur : Nat → Gr, SliceR wr B 3 (.slice (some ⟨g, 0, none⟩) L.length cap) L.length (fun j o => grC (cur j) o) ∧ (∀ t, t < ii → cur t = atG (kp L jj) t) ∧ ∀ t, jj ≤ t → t < L.length → cur t = atG L t) ∧ Hid (Below B w wr)) (fun _ j _ => L.length - (intOf j).toNat)
    case atStart => exact ⟨k, k + 1, rfl, by first | rfl | go_num, by omega, by omega, hkl, hgw1, HSt, B1⟩
    case round =>
      obtain ⟨ii, jj, rfl, rfl, hij, hjl, hlen, hgr, HC, HB⟩ := hrel
      clear HSt B1 hkl hgw1 qk
      by_cases hlt : jj < L.length
      · obtain ⟨cur, hcs, hc1, hc2⟩ := HC.out
        have j0 : (0 : Int) ≤ jj := by omega
        have j1 : (jj : Int) < L.length := by omega
        have i0 : (0 : Int) ≤ ii := by omega
        have i1 : (ii : Int) < L.length := by omega
        have hcell : ∀ t, t < L.length → ∀ o, o < 3 → wr.cell? ⟨g, t * 3 + o, none⟩ = some (grC (cur t) o) ∧ wr.frozen? ⟨g, t * 3 + o, none⟩ = false := by
          obtain ⟨p', c', e', hh⟩ := hcs
          injection e' with e1'
          obtain ⟨g', e2', -, -, hc⟩ := hh (by omega)
          rw [e2'] at e1'
          injection e1' with e1'
          injection e1' with e1'
          subst e1'
          exact hc
        have hcj := hc2 jj (Nat.le_refl _) hlt
        have HCell : Hid (∀ t, t < L.length → ∀ o, o < 3 → wr.cell? ⟨g, t * 3 + o, none⟩ = some (grC (cur t) o) ∧ wr.frozen? ⟨g, t * 3 + o, none⟩ = false) := hcell
        have c0 : wr.cell? ⟨g, jj * 3, none⟩ = some (.string (atG L jj).tp) := by rw [← hcj]; exact (hcell jj hlt 0 (by omega)).1
        have c1 : wr.cell? ⟨g, jj * 3 + 1, none⟩ = some (.string (atG L jj).si) := by rw [← hcj]; exact (hcell jj hlt 1 (by omega)).1
        have c2 : wr.cell? ⟨g, jj * 3 + 2, none⟩ = some (.int .i64 (atG L jj).un) := by rw [← hcj]; exact (hcell jj hlt 2 (by omega)).1
        have HS0 : Hid (∀ W, Below B w W → Calls Try.prog 45 #[.int .i64 now, .agg #[.string (atG L jj).tp, .string (atG L jj).si, .int .i64 (atG L jj).un]] W fun e w' => e = .returned (.bool (pr (atG L jj))) ∧ Below W.heap.size W w') := fun W h => KH.out (atG L jj) W h
        have HBA : Hid (∀ o, Below wr.heap.size wr (wr.alloc o)) := fun o => (Below.refl _ _).alloc (Nat.le_refl _) _
        have HBW : Hid (∀ W, Below wr.heap.size wr W → Below B w W) := fun W h => HB.out.trans (h.mono (Nat.le_trans hB HB.out.size))
        have HCS : Hid (SliceR wr B 3 (.slice (some ⟨g, 0, none⟩) L.length cap) L.length (fun j o => grC (cur j) o)) := hcs
        have HC1 : Hid (∀ t, t < ii → cur t = atG (kp L jj) t) := hc1
        have HC2 : Hid (∀ t, jj ≤ t → t < L.length → cur t = atG L t) := hc2
        have HY1 : Hid (pr (atG L jj) = false → kp L (jj + 1) = kp L jj ++ [atG L jj]) := HYs.out jj hlt
        have HN1 : Hid (pr (atG L jj) = true → kp L (jj + 1) = kp L jj) := HNs.out jj hlt
        clear hcell hcs hc1 hc2 hcj HC KH HYs HNs
        generalize hsm : pr (atG L jj) = sm at *
        clear hsm
        generalize hyy : atG L jj = y at *
        obtain ⟨tp', si', un'⟩ := y
        dsimp only at *
        obtain ⟨W0, hW⟩ : ∃ W0, W0 = wr.alloc (.cells #[.string tp', .string si', .int .i64 un'] 62) := ⟨_, rfl⟩
        have hW0 : Hid (W0 = wr.alloc (.cells #[.string tp', .string si', .int .i64 un'] 62)) := hW
        have HBr : Hid (Below wr.heap.size wr W0) := by show Below _ _ _; rw [hW]; exact (Below.refl _ _).alloc (Nat.le_refl _) _
        have n0 : W0.cell? ⟨wr.heap.size, 0, none⟩ = some (.string tp') := by rw [hW]; simp
        have n1 : W0.cell? ⟨wr.heap.size, 1, none⟩ = some (.string si') := by rw [hW]; simp
        have n2 : W0.cell? ⟨wr.heap.size, 2, none⟩ = some (.int .i64 un') := by rw [hW]; simp
        have hbW : wr.heap.size < W0.heap.size := by rw [hW]; simp
        clear hW HBA
        go_upto_region 8 with fail
        rw [← hW0.out]
        clear hW0
        generalize hbb : wr.heap.size = bx at *
        go_wp2_with fail
        refine (HS0.out _ (HBW.out _ HBr.out)).mono ?_
        rintro e w2 ⟨rfl, hb2⟩
        have A2 : Hid (Below bx wr w2) := HBr.out.trans (hb2.mono (Nat.le_of_lt hbW))
        have x0 : w2.cell? ⟨bx, 0, none⟩ = some (.string tp') := ((bcell hb2).1 _ _ hbW).trans n0
        have x1 : w2.cell? ⟨bx, 1, none⟩ = some (.string si') := ((bcell hb2).1 _ _ hbW).trans n1
        have x2 : w2.cell? ⟨bx, 2, none⟩ = some (.int .i64 un') := ((bcell hb2).1 _ _ hbW).trans n2
        have B2 : Hid (Below B w w2) := HBW.out _ A2.out
        have hg2 : g < w2.heap.size := Nat.lt_of_lt_of_le (by rw [hbb]; exact hgr) A2.out.size
        have S2 : Hid (SliceR w2 B 3 (.slice (some ⟨g, 0, none⟩) L.length cap) L.length (fun j o => grC (cur j) o)) := SliceR.below HCS.out (by rw [hbb]; exact A2.out)
        cases sm with
        | true =>
          have hkp := HN1.out rfl
          have HC3 : Hid (∃ cur : Nat → Gr, SliceR w2 B 3 (.slice (some ⟨g, 0, none⟩) L.length cap) L.length (fun j o => grC (cur j) o) ∧ (∀ t, t < ii → cur t = atG (kp L (jj + 1)) t) ∧ ∀ t, jj + 1 ≤ t → t < L.length → cur t = atG L t) := ⟨cur, S2.out, fun t ht => by rw [hkp]; exact HC1.out t ht, fun t h1 h2 => HC2.out t (by omega) h2⟩
          have hlen2 : (kp L (jj + 1)).length = ii := by rw [hkp]; exact hlen
          clear hb2 hkp n0 n1 n2 x0 x1 x2
          go_wp2
          go_roundw
          case rel => exact ⟨ii, jj + 1, rfl, by go_num, by omega, by omega, hlen2, hg2, HC3, B2⟩
          case measure => simp [intOf]; omega
        | false =>
          have hkp := HY1.out rfl
          have hlen2 : (kp L (jj + 1)).length = ii + 1 := by rw [hkp, List.length_append, hlen]; rfl
          obtain ⟨f0, z0⟩ : w2.cell? ⟨g, ii * 3, none⟩ = some (.string (cur ii).tp) ∧ w2.frozen? ⟨g, ii * 3, none⟩ = false := ⟨(A2.out.cell (p := ⟨g, _, none⟩) hgr).trans (HCell.out ii (by omega) 0 (by omega)).1, (A2.out.frozen (p := ⟨g, _, none⟩) hgr).trans (HCell.out ii (by omega) 0 (by omega)).2⟩
          obtain ⟨f1, z1⟩ : w2.cell? ⟨g, ii * 3 + 1, none⟩ = some (.string (cur ii).si) ∧ w2.frozen? ⟨g, ii * 3 + 1, none⟩ = false := ⟨(A2.out.cell (p := ⟨g, _, none⟩) hgr).trans (HCell.out ii (by omega) 1 (by omega)).1, (A2.out.frozen (p := ⟨g, _, none⟩) hgr).trans (HCell.out ii (by omega) 1 (by omega)).2⟩
          obtain ⟨f2, z2⟩ : w2.cell? ⟨g, ii * 3 + 2, none⟩ = some (.int .i64 (cur ii).un) ∧ w2.frozen? ⟨g, ii * 3 + 2, none⟩ = false := ⟨(A2.out.cell (p := ⟨g, _, none⟩) hgr).trans (HCell.out ii (by omega) 2 (by omega)).1, (A2.out.frozen (p := ⟨g, _, none⟩) hgr).trans (HCell.out ii (by omega) 2 (by omega)).2⟩
          have HC3 : Hid (∃ cur : Nat → Gr, SliceR (((w2.setCell ⟨g, ii * 3, none⟩ (.string tp')).setCell ⟨g, ii * 3 + 1, none⟩ (.string si')).setCell ⟨g, ii * 3 + 2, none⟩ (.int .i64 un')) B 3 (.slice (some ⟨g, 0, none⟩) L.length cap) L.length (fun j o => grC (cur j) o) ∧ (∀ t, t < ii + 1 → cur t = atG (kp L (jj + 1)) t) ∧ ∀ t, jj + 1 ≤ t → t < L.length → cur t = atG L t) := by
            refine ⟨fun t => if t = ii then ⟨tp', si', un'⟩ else cur t, SliceR.congr (SliceR.putGr S2.out ii (by omega) ⟨tp', si', un'⟩) (fun j hj o ho => ?_), fun t ht => ?_, fun t h1 h2 => ?_⟩
            · by_cases e : j = ii
              · simp only [if_pos e]
              · simp only [if_neg e]
            · rw [hkp, atG_snoc, hlen]
              by_cases e : t = ii
              · simp only [if_pos e]; rw [if_neg (by omega)]
              · simp only [if_neg e]; rw [if_pos (by omega)]; exact HC1.out t (by omega)
            · simp only [if_neg (show ¬ t = ii by omega)]; exact HC2.out t (by omega) h2
          have B3 : Hid (Below B w (((w2.setCell ⟨g, ii * 3, none⟩ (.string tp')).setCell ⟨g, ii * 3 + 1, none⟩ (.string si')).setCell ⟨g, ii * 3 + 2, none⟩ (.int .i64 un'))) := ((B2.out.setCell hBg _).setCell hBg _).setCell hBg _
          have hg3 : g < (((w2.setCell ⟨g, ii * 3, none⟩ (.string tp')).setCell ⟨g, ii * 3 + 1, none⟩ (.string si')).setCell ⟨g, ii * 3 + 2, none⟩ (.int .i64 un')).heap.size := by simpa using hg2
          generalize (cur ii).tp = o0 at *
          generalize (cur ii).si = o1 at *
          generalize (cur ii).un = o2 at *
          clear hb2 hkp c0 c1 c2 HCell HCS n0 n1 n2
          go_wp2
          go_roundw
          case rel => exact ⟨ii + 1, jj + 1, by go_num, by go_num, by omega, by omega, hlen2, hg3, HC3, B3⟩
          case measure => simp [intOf]; omega
      · obtain rfl : jj = L.length := by omega
        obtain ⟨cur, hcs, hc1, -⟩ := HC.out
        have hcell : ∀ t, t < L.length → ∀ o, o < 3 → wr.cell? ⟨g, t * 3 + o, none⟩ = some (grC (cur t) o) ∧ wr.frozen? ⟨g, t * 3 + o, none⟩ = false := by
          obtain ⟨p', c', e', hh⟩ := hcs
          injection e' with e1'
          obtain ⟨g', e2', -, -, hc⟩ := hh (by omega)
          rw [e2'] at e1'
          injection e1' with e1'
          injection e1' with e1'
          subst e1'
          exact hc
        have hcl : ∀ ty, (Builtin.clear_ #[24] ty #[.slice (some ⟨g, ii * 3, none⟩) (L.length - ii) (cap - ii)]).run Try.prog wr = .ok (.tuple #[]) (wr.setCells g (ii * 3) (Builtin.zeroCells (Value.agg #[.string ⟨#[]⟩, .string ⟨#[]⟩, .int .i64 0]).cells (L.length - ii)).toList) := fun ty => by
          refine run_clear_cells wr _ 62 ty (.agg #[.string ⟨#[]⟩, .string ⟨#[]⟩, .int .i64 0]) Try.underlying24 (fun W => Try.zeroValue62 W) g (ii * 3) _ _ (by omega) ?_ ?_ ?_
          · intro v hv
            simp only [Builtin.zeroCells, Value.cells, Array.toList_map, List.mem_map] at hv
            obtain ⟨i, -, rfl⟩ := hv
            have hm : i % 3 = 0 ∨ i % 3 = 1 ∨ i % 3 = 2 := by omega
            rcases hm with e | e | e <;> simp [e, Value.oneCell']
          · intro j hj
            rw [zeroCells_len] at hj
            simp only [Value.cells] at hj
            have hj2 : j < (L.length - ii) * 3 := hj
            have := (hcell (ii + j / 3) (by omega) (j % 3) (Nat.mod_lt _ (by decide))).1
            rw [show ii * 3 + j = (ii + j / 3) * 3 + j % 3 by omega, this]; rfl
          · intro j hj
            rw [zeroCells_len] at hj
            simp only [Value.cells] at hj
            have hj2 : j < (L.length - ii) * 3 := hj
            have := (hcell (ii + j / 3) (by omega) (j % 3) (Nat.mod_lt _ (by decide))).2
            rw [show ii * 3 + j = (ii + j / 3) * 3 + j % 3 by omega, this]
        generalize (Builtin.zeroCells (Value.agg #[.string ⟨#[]⟩, .string ⟨#[]⟩, .int .i64 0]).cells (L.length - ii)).toList = zs at *
        have SF : Hid (SliceG (wr.setCells g (ii * 3) zs) B (.slice (some ⟨g, 0, none⟩) ii cap) Z) := by
          show SliceG _ _ _ _
          rw [← HFil.out]
          refine ⟨⟨_, _, by rw [hlen], fun _ => ⟨g, rfl, hBg, ?_, fun j hj o ho => ⟨?_, ?_⟩⟩⟩, _, _, by rw [hlen], by rw [hlen]; omega, fun h => by cases h⟩
          · exact Nat.lt_of_lt_of_le hgr (below_setCellsK (Nat.le_refl g) zs (ii * 3) wr).size
          · rw [World.cell?_setCells_out g zs (ii * 3) wr ⟨g, j * 3 + o, none⟩ (fun _ _ => .inl (by show j * 3 + o < ii * 3; rw [hlen] at hj; omega)), (hcell j (by omega) o ho).1, hc1 j (by omega)]
            rfl
          · rw [World.frozen?_setCells]; exact (hcell j (by rw [hlen] at hj; omega) o ho).2
        have BF : Hid (Below B w (wr.setCells g (ii * 3) zs)) := HB.out.trans (below_setCellsK hBg zs (ii * 3) wr)
        have i0 : (0 : Int) ≤ ii := by omega
        have i1 : (ii : Int) ≤ L.length := by omega
        have i2 : (ii : Int) ≤ cap := by omega
        have i3 : ¬ (ii = cap) := by omega
        clear hcell hcs hc1 HC HB
        go_wp2
        go_ret
        exact ⟨_, rfl, SF.out, BF.out⟩
  · have HZ : Hid (Z = L) := HAll.out hp
    have S1 : Hid (SliceG w1 B (.slice q L.length cap) L) := HSg.out.below hb1
    have B1 : Hid (Below B w w1) := hb1.mono hB
    clear hp hb1
    go_wp2
    go_ret
    exact ⟨_, rfl, by rw [HZ.out]; exact S1.out, B1.out⟩
set_option maxRecDepth 10000 in
set_option maxHeartbeats 4000000 in
theorem indexHas_any (tp si : ByteArray) (q : Option Addr) (cap B : Nat) (L : List Gr) (w : World) (hs : SliceG w B (.slice q L.length cap) L) (hn : L.length ≤ 1048576)
    (KP : ∀ (c : Gr) (W : World), Below w.heap.size w W → Calls Try.prog 51 #[leaveV tp si, grV c] W fun e w' => e = .returned (.bool ((isG tp si) c)) ∧ Below W.heap.size W w') :
    Calls Try.prog 72 #[.slice q L.length cap, .func (.func 51) #[leaveV tp si] #[]] w fun e w' => ((∃ k, k < L.length ∧ e = .returned (.int .i64 (k : Nat)) ∧ (isG tp si) (atG L k) = true ∧ ∀ j, j < k → (isG tp si) (atG L j) = false) ∨ (e = .returned (.int .i64 (-1)) ∧ ∀ j, j < L.length → (isG tp si) (atG L j) = false)) ∧ Below w.heap.size w w' := by
  obtain ⟨⟨q', cap', e1, hg⟩, -⟩ := hs
  injection e1 with e1 _ e3
  subst e1 e3
  have HG : Hid (0 < L.length → ∃ g, q = some ⟨g, 0, none⟩ ∧ g < w.heap.size ∧ ∀ j, j < L.length → ∀ o, o < 3 → w.cell? ⟨g, j * 3 + o, none⟩ = some (grC (atG L j) o)) := fun h0 => by
    obtain ⟨g, e, -, hgw, hc⟩ := hg h0
    exact ⟨g, e, hgw, fun j hj o ho => (hc j hj o ho).1⟩
  have KH : Hid (∀ (c : Gr) (W : World), Below w.heap.size w W → Calls Try.prog 51 #[leaveV tp si, grV c] W fun e w' => e = .returned (.bool ((isG tp si) c)) ∧ Below W.heap.size W w') := KP
  clear hg KP
  generalize hpp : (isG tp si) = pr at *
  clear hpp
  go_enter Try.func72, Try.ntmps72
  go_wp2
  go_loopw [8] (fun i wr => ∃ j : Nat, j ≤ L.length ∧ i = .int .i64 j ∧ Hid (Below w.heap.size w wr) ∧ Hid (∀ i', i' < j → pr (atG L i') = false)) (fun i _ => L.length - (intOf i).toNat)
  case atStart => exact ⟨0, Nat.zero_le _, rfl, Below.refl _ _, fun j hj => absurd hj (by omega)⟩
  case round =>
    obtain ⟨j, hj, rfl, HB, HR⟩ := hrel
    by_cases hlt : j < L.length
    · obtain ⟨g, rfl, hgw, hc⟩ := HG.out (by omega)
      have j0 : (0 : Int) ≤ j := by omega
      have j1 : (j : Int) < L.length := by omega
      have HN1 : Hid (pr (atG L j) = false → ∀ i', i' < j + 1 → pr (atG L i') = false) := fun e i' hi' => by
        by_cases e2 : i' = j
        · subst e2; exact e
        · exact HR.out i' (by omega)
      have HS0 : Hid (∀ W, Below w.heap.size w W → Calls Try.prog 51 #[leaveV tp si, .agg #[.string (atG L j).tp, .string (atG L j).si, .int .i64 (atG L j).un]] W fun e w' => e = .returned (.bool (pr (atG L j))) ∧ Below W.heap.size W w') := fun W h => KH.out (atG L j) W h
      have c0 : wr.cell? ⟨g, j * 3, none⟩ = some (.string (atG L j).tp) := by rw [(bcell HB.out).1 _ _ hgw]; exact hc j hlt 0 (by omega)
      have c1 : wr.cell? ⟨g, j * 3 + 1, none⟩ = some (.string (atG L j).si) := by rw [(bcell HB.out).1 _ _ hgw]; exact hc j hlt 1 (by omega)
      have c2 : wr.cell? ⟨g, j * 3 + 2, none⟩ = some (.int .i64 (atG L j).un) := by rw [(bcell HB.out).1 _ _ hgw]; exact hc j hlt 2 (by omega)
      have HBA : Hid (∀ o, Below w.heap.size w (wr.alloc o)) := fun o => HB.out.alloc HB.out.size _
      clear hc KH
      generalize hsm : pr (atG L j) = sm at *
      have HSM : Hid (pr (atG L j) = sm) := hsm
      clear hsm
      have HKK : Hid (∀ i', i' < j → pr (atG L i') = false) := HR.out
      generalize hyy : atG L j = y at *
      obtain ⟨tp', si', un'⟩ := y
      dsimp only at *
      generalize hlv : leaveV tp si = lv at *
      clear hlv
      go_wp2_with fail
      refine (HS0.out _ (by first | exact HB.out | exact HBA.out _)).mono ?_
      rintro e w2 ⟨rfl, hb2⟩
      have B2 : Hid (Below w.heap.size w w2) := by first | exact HB.out.trans (hb2.mono HB.out.size) | exact (HBA.out _).trans (hb2.mono (HBA.out _).size)
      clear hb2
      cases sm with
      | true =>
        go_wp2
        go_ret
        exact ⟨.inl ⟨j, hlt, rfl, by rw [hyy]; exact HSM.out, HKK.out⟩, B2.out⟩
      | false =>
        have HN2 : Hid (∀ i', i' < j + 1 → pr (atG L i') = false) := HN1.out rfl
        go_wp2
        go_roundw
        case rel => exact ⟨j + 1, by omega, by go_num, B2, HN2⟩
        case measure => simp [intOf]; omega
    · go_wp2
      go_ret
      exact ⟨.inr ⟨rfl, fun i hi => HR.out i (by omega)⟩, HB.out⟩
set_option maxRecDepth 10000 in
set_option maxHeartbeats 8000000 in
theorem deleteHas_any (tp si : ByteArray) (v : Value) (B : Nat) (L : List Gr) (w : World) (hs : SliceG w B v L) (hB : B ≤ w.heap.size) (hn : L.length ≤ 1000)
    (KP : ∀ (c : Gr) (W : World), Below B w W → Calls Try.prog 51 #[leaveV tp si, grV c] W fun e w' => e = .returned (.bool ((isG tp si) c)) ∧ Below W.heap.size W w') :
    Calls Try.prog 42 #[v, .func (.func 51) #[leaveV tp si] #[]] w fun e w' => ∃ v', e = .returned v' ∧ SliceG w' B v' (L.filter (fun g => !((isG tp si) g))) ∧ Below B w w' := by
  have HSg : Hid (SliceG w B v L) := hs
  obtain ⟨⟨q, cap, rfl, hg⟩, q2, cap2, e2, hcap, hqn⟩ := hs
  injection e2 with e3 _ e4
  subst e3 e4
  have KI : Hid (Calls Try.prog 72 #[.slice q L.length cap, .func (.func 51) #[leaveV tp si] #[]] w fun e w' => ((∃ k, k < L.length ∧ e = .returned (.int .i64 (k : Nat)) ∧ (isG tp si) (atG L k) = true ∧ ∀ j, j < k → (isG tp si) (atG L j) = false) ∨ (e = .returned (.int .i64 (-1)) ∧ ∀ j, j < L.length → (isG tp si) (atG L j) = false)) ∧ Below w.heap.size w w') := indexHas_any tp si q cap B L w HSg.out (by omega) (fun c W h => KP c W (h.mono hB))
  have KH : Hid (∀ (c : Gr) (W : World), Below B w W → Calls Try.prog 51 #[leaveV tp si, grV c] W fun e w' => e = .returned (.bool ((isG tp si) c)) ∧ Below W.heap.size W w') := KP
  have HGr : Hid (0 < L.length → ∃ g, q = some ⟨g, 0, none⟩ ∧ B ≤ g ∧ g < w.heap.size) := fun h0 => by
    obtain ⟨g, e, h1, h2, -⟩ := hg h0
    exact ⟨g, e, h1, h2⟩
  have HAll : Hid ((∀ j, j < L.length → (isG tp si) (atG L j) = false) → L.filter (fun g => !((isG tp si) g)) = L) := fun h => by
    refine List.filter_eq_self.2 fun x hx => ?_
    obtain ⟨j, hj, rfl⟩ := List.mem_iff_getElem.1 hx
    have := h j hj
    rw [atG_get hj] at this
    show (!_) = true
    rw [this]; rfl
  have HFil : Hid (keepG (fun g => !((isG tp si) g)) L L.length = L.filter (fun g => !((isG tp si) g))) := keepG_all _ L
  have HYs : Hid (∀ k, k < L.length → (isG tp si) (atG L k) = false → keepG (fun g => !((isG tp si) g)) L (k + 1) = keepG (fun g => !((isG tp si) g)) L k ++ [atG L k]) := fun k hk h => keepG_yes hk (by show (!_) = true; rw [h]; rfl)
  have HNs : Hid (∀ k, k < L.length → (isG tp si) (atG L k) = true → keepG (fun g => !((isG tp si) g)) L (k + 1) = keepG (fun g => !((isG tp si) g)) L k) := fun k hk h => keepG_no hk (by show (!_) = false; rw [h]; rfl)
  have HFirst : Hid (∀ k, k < L.length → (isG tp si) (atG L k) = true → (∀ j, j < k → (isG tp si) (atG L j) = false) → keepG (fun g => !((isG tp si) g)) L (k + 1) = L.take k) := fun k hk h h2 => by
    rw [keepG_no hk (by show (!_) = false; rw [h]; rfl)]
    exact keep_same (by omega) (fun j hj => by show (!_) = true; rw [h2 j hj]; rfl)
  clear hg KP
  generalize hlv : leaveV tp si = lv at *
  clear hlv
  generalize L.filter (fun g => !((isG tp si) g)) = Z at *
  generalize hpk : keepG (fun g => !((isG tp si) g)) = kp at *
  clear hpk
  generalize hpp : (isG tp si) = pr at *
  clear hpp
  go_enter Try.func42, Try.ntmps42
  go_wp2_with fail
  refine KI.out.mono ?_
  rintro e w1 ⟨⟨k, hk, rfl, hp, hbf⟩ | ⟨rfl, hp⟩, hb1⟩
  · obtain ⟨g, rfl, hBg, hgw⟩ := HGr.out (by omega)
    have hkeep : kp L (k + 1) = L.take k := HFirst.out k hk hp hbf
    have S1 : Hid (SliceR w1 B 3 (.slice (some ⟨g, 0, none⟩) L.length cap) L.length (fun j o => grC (atG L j) o)) := (HSg.out.1).below hb1
    have hgw1 : g < w1.heap.size := Nat.lt_of_lt_of_le hgw hb1.size
    have B1 : Hid (Below B w w1) := hb1.mono hB
    have HSt : Hid (∃ cur : Nat → Gr, SliceR w1 B 3 (.slice (some ⟨g, 0, none⟩) L.length cap) L.length (fun j o => grC (cur j) o) ∧ (∀ t, t < k → cur t = atG (kp L (k + 1)) t) ∧ ∀ t, k + 1 ≤ t → t < L.length → cur t = atG L t) := ⟨atG L, S1.out, fun t ht => by rw [hkeep, atG_take (by omega) ht], fun t _ _ => rfl⟩
    have hkl : (kp L (k + 1)).length = k := by rw [hkeep, List.length_take]; omega
    have qk : ((k : Int) == -1) = false := beq_eq_false_iff_ne.2 (by omega)
    clear hb1 hp hbf KI HSg S1 HFirst HAll HGr hkeep
    go_wp2
    go_loopw [5, 6] (fun i j wr => ∃ ii jj : Nat, i = .int .i64 ii ∧ j = .int .i64 jj ∧ ii < jj ∧ jj ≤ L.length ∧ (kp L jj).length = ii ∧ g < wr.heap.size ∧ Hid (∃ cur : Nat → Gr, SliceR wr B 3 (.slice (some ⟨g, 0, none⟩) L.length cap) L.length (fun j o => grC (cur j) o) ∧ (∀ t, t < ii → cur t = atG (kp L jj) t) ∧ ∀ t, jj ≤ t → t < L.length → cur t = atG L t) ∧ Hid (Below B w wr)) (fun _ j _ => L.length - (intOf j).toNat)
    case atStart => exact ⟨k, k + 1, rfl, by first | rfl | go_num, by omega, by omega, hkl, hgw1, HSt, B1⟩
    case round =>
      obtain ⟨ii, jj, rfl, rfl, hij, hjl, hlen, hgr, HC, HB⟩ := hrel
      clear HSt B1 hkl hgw1 qk
      by_cases hlt : jj < L.length
      · obtain ⟨cur, hcs, hc1, hc2⟩ := HC.out
        have j0 : (0 : Int) ≤ jj := by omega
        have j1 : (jj : Int) < L.length := by omega
        have i0 : (0 : Int) ≤ ii := by omega
        have i1 : (ii : Int) < L.length := by omega
        have hcell : ∀ t, t < L.length → ∀ o, o < 3 → wr.cell? ⟨g, t * 3 + o, none⟩ = some (grC (cur t) o) ∧ wr.frozen? ⟨g, t * 3 + o, none⟩ = false := by
          obtain ⟨p', c', e', hh⟩ := hcs
          injection e' with e1'
          obtain ⟨g', e2', -, -, hc⟩ := hh (by omega)
          rw [e2'] at e1'
          injection e1' with e1'
          injection e1' with e1'
          subst e1'
          exact hc
        have hcj := hc2 jj (Nat.le_refl _) hlt
        have HCell : Hid (∀ t, t < L.length → ∀ o, o < 3 → wr.cell? ⟨g, t * 3 + o, none⟩ = some (grC (cur t) o) ∧ wr.frozen? ⟨g, t * 3 + o, none⟩ = false) := hcell
        have c0 : wr.cell? ⟨g, jj * 3, none⟩ = some (.string (atG L jj).tp) := by rw [← hcj]; exact (hcell jj hlt 0 (by omega)).1
        have c1 : wr.cell? ⟨g, jj * 3 + 1, none⟩ = some (.string (atG L jj).si) := by rw [← hcj]; exact (hcell jj hlt 1 (by omega)).1
        have c2 : wr.cell? ⟨g, jj * 3 + 2, none⟩ = some (.int .i64 (atG L jj).un) := by rw [← hcj]; exact (hcell jj hlt 2 (by omega)).1
        have HS0 : Hid (∀ W, Below B w W → Calls Try.prog 51 #[lv, .agg #[.string (atG L jj).tp, .string (atG L jj).si, .int .i64 (atG L jj).un]] W fun e w' => e = .returned (.bool (pr (atG L jj))) ∧ Below W.heap.size W w') := fun W h => KH.out (atG L jj) W h
        have HBA : Hid (∀ o, Below wr.heap.size wr (wr.alloc o)) := fun o => (Below.refl _ _).alloc (Nat.le_refl _) _
        have HBW : Hid (∀ W, Below wr.heap.size wr W → Below B w W) := fun W h => HB.out.trans (h.mono (Nat.le_trans hB HB.out.size))
        have HCS : Hid (SliceR wr B 3 (.slice (some ⟨g, 0, none⟩) L.length cap) L.length (fun j o => grC (cur j) o)) := hcs
        have HC1 : Hid (∀ t, t < ii → cur t = atG (kp L jj) t) := hc1
        have HC2 : Hid (∀ t, jj ≤ t → t < L.length → cur t = atG L t) := hc2
        have HY1 : Hid (pr (atG L jj) = false → kp L (jj + 1) = kp L jj ++ [atG L jj]) := HYs.out jj hlt
        have HN1 : Hid (pr (atG L jj) = true → kp L (jj + 1) = kp L jj) := HNs.out jj hlt
        clear hcell hcs hc1 hc2 hcj HC KH HYs HNs
        generalize hsm : pr (atG L jj) = sm at *
        clear hsm
        generalize hyy : atG L jj = y at *
        obtain ⟨tp', si', un'⟩ := y
        dsimp only at *
        obtain ⟨W0, hW⟩ : ∃ W0, W0 = wr.alloc (.cells #[.string tp', .string si', .int .i64 un'] 62) := ⟨_, rfl⟩
        have hW0 : Hid (W0 = wr.alloc (.cells #[.string tp', .string si', .int .i64 un'] 62)) := hW
        have HBr : Hid (Below wr.heap.size wr W0) := by show Below _ _ _; rw [hW]; exact (Below.refl _ _).alloc (Nat.le_refl _) _
        have n0 : W0.cell? ⟨wr.heap.size, 0, none⟩ = some (.string tp') := by rw [hW]; simp
        have n1 : W0.cell? ⟨wr.heap.size, 1, none⟩ = some (.string si') := by rw [hW]; simp
        have n2 : W0.cell? ⟨wr.heap.size, 2, none⟩ = some (.int .i64 un') := by rw [hW]; simp
        have hbW : wr.heap.size < W0.heap.size := by rw [hW]; simp
        clear hW HBA
        go_upto_region 8 with fail
        rw [← hW0.out]
        clear hW0
        generalize hbb : wr.heap.size = bx at *
        go_wp2_with fail
        refine (HS0.out _ (HBW.out _ HBr.out)).mono ?_
        rintro e w2 ⟨rfl, hb2⟩
        have A2 : Hid (Below bx wr w2) := HBr.out.trans (hb2.mono (Nat.le_of_lt hbW))
        have x0 : w2.cell? ⟨bx, 0, none⟩ = some (.string tp') := ((bcell hb2).1 _ _ hbW).trans n0
        have x1 : w2.cell? ⟨bx, 1, none⟩ = some (.string si') := ((bcell hb2).1 _ _ hbW).trans n1
        have x2 : w2.cell? ⟨bx, 2, none⟩ = some (.int .i64 un') := ((bcell hb2).1 _ _ hbW).trans n2
        have B2 : Hid (Below B w w2) := HBW.out _ A2.out
        have hg2 : g < w2.heap.size := Nat.lt_of_lt_of_le (by rw [hbb]; exact hgr) A2.out.size
        have S2 : Hid (SliceR w2 B 3 (.slice (some ⟨g, 0, none⟩) L.length cap) L.length (fun j o => grC (cur j) o)) := SliceR.below HCS.out (by rw [hbb]; exact A2.out)
        cases sm with
        | true =>
          have hkp := HN1.out rfl
          have HC3 : Hid (∃ cur : Nat → Gr, SliceR w2 B 3 (.slice (some ⟨g, 0, none⟩) L.length cap) L.length (fun j o => grC (cur j) o) ∧ (∀ t, t < ii → cur t = atG (kp L (jj + 1)) t) ∧ ∀ t, jj + 1 ≤ t → t < L.length → cur t = atG L t) := ⟨cur, S2.out, fun t ht => by rw [hkp]; exact HC1.out t ht, fun t h1 h2 => HC2.out t (by omega) h2⟩
          have hlen2 : (kp L (jj + 1)).length = ii := by rw [hkp]; exact hlen
          clear hb2 hkp n0 n1 n2 x0 x1 x2
          go_wp2
          go_roundw
          case rel => exact ⟨ii, jj + 1, rfl, by go_num, by omega, by omega, hlen2, hg2, HC3, B2⟩
          case measure => simp [intOf]; omega
        | false =>
          have hkp := HY1.out rfl
          have hlen2 : (kp L (jj + 1)).length = ii + 1 := by rw [hkp, List.length_append, hlen]; rfl
          obtain ⟨f0, z0⟩ : w2.cell? ⟨g, ii * 3, none⟩ = some (.string (cur ii).tp) ∧ w2.frozen? ⟨g, ii * 3, none⟩ = false := ⟨(A2.out.cell (p := ⟨g, _, none⟩) hgr).trans (HCell.out ii (by omega) 0 (by omega)).1, (A2.out.frozen (p := ⟨g, _, none⟩) hgr).trans (HCell.out ii (by omega) 0 (by omega)).2⟩
          obtain ⟨f1, z1⟩ : w2.cell? ⟨g, ii * 3 + 1, none⟩ = some (.string (cur ii).si) ∧ w2.frozen? ⟨g, ii * 3 + 1, none⟩ = false := ⟨(A2.out.cell (p := ⟨g, _, none⟩) hgr).trans (HCell.out ii (by omega) 1 (by omega)).1, (A2.out.frozen (p := ⟨g, _, none⟩) hgr).trans (HCell.out ii (by omega) 1 (by omega)).2⟩
          obtain ⟨f2, z2⟩ : w2.cell? ⟨g, ii * 3 + 2, none⟩ = some (.int .i64 (cur ii).un) ∧ w2.frozen? ⟨g, ii * 3 + 2, none⟩ = false := ⟨(A2.out.cell (p := ⟨g, _, none⟩) hgr).trans (HCell.out ii (by omega) 2 (by omega)).1, (A2.out.frozen (p := ⟨g, _, none⟩) hgr).trans (HCell.out ii (by omega) 2 (by omega)).2⟩
          have HC3 : Hid (∃ cur : Nat → Gr, SliceR (((w2.setCell ⟨g, ii * 3, none⟩ (.string tp')).setCell ⟨g, ii * 3 + 1, none⟩ (.string si')).setCell ⟨g, ii * 3 + 2, none⟩ (.int .i64 un')) B 3 (.slice (some ⟨g, 0, none⟩) L.length cap) L.length (fun j o => grC (cur j) o) ∧ (∀ t, t < ii + 1 → cur t = atG (kp L (jj + 1)) t) ∧ ∀ t, jj + 1 ≤ t → t < L.length → cur t = atG L t) := by
            refine ⟨fun t => if t = ii then ⟨tp', si', un'⟩ else cur t, SliceR.congr (SliceR.putGr S2.out ii (by omega) ⟨tp', si', un'⟩) (fun j hj o ho => ?_), fun t ht => ?_, fun t h1 h2 => ?_⟩
            · by_cases e : j = ii
              · simp only [if_pos e]
              · simp only [if_neg e]
            · rw [hkp, atG_snoc, hlen]
              by_cases e : t = ii
              · simp only [if_pos e]; rw [if_neg (by omega)]
              · simp only [if_neg e]; rw [if_pos (by omega)]; exact HC1.out t (by omega)
            · simp only [if_neg (show ¬ t = ii by omega)]; exact HC2.out t (by omega) h2
          have B3 : Hid (Below B w (((w2.setCell ⟨g, ii * 3, none⟩ (.string tp')).setCell ⟨g, ii * 3 + 1, none⟩ (.string si')).setCell ⟨g, ii * 3 + 2, none⟩ (.int .i64 un'))) := ((B2.out.setCell hBg _).setCell hBg _).setCell hBg _
          have hg3 : g < (((w2.setCell ⟨g, ii * 3, none⟩ (.string tp')).setCell ⟨g, ii * 3 + 1, none⟩ (.string si')).setCell ⟨g, ii * 3 + 2, none⟩ (.int .i64 un')).heap.size := by simpa using hg2
          generalize (cur ii).tp = o0 at *
          generalize (cur ii).si = o1 at *
          generalize (cur ii).un = o2 at *
          clear hb2 hkp c0 c1 c2 HCell HCS n0 n1 n2
          go_wp2
          go_roundw
          case rel => exact ⟨ii + 1, jj + 1, by go_num, by go_num, by omega, by omega, hlen2, hg3, HC3, B3⟩
          case measure => simp [intOf]; omega
      · obtain rfl : jj = L.length := by omega
        obtain ⟨cur, hcs, hc1, -⟩ := HC.out
        have hcell : ∀ t, t < L.length → ∀ o, o < 3 → wr.cell? ⟨g, t * 3 + o, none⟩ = some (grC (cur t) o) ∧ wr.frozen? ⟨g, t * 3 + o, none⟩ = false := by
          obtain ⟨p', c', e', hh⟩ := hcs
          injection e' with e1'
          obtain ⟨g', e2', -, -, hc⟩ := hh (by omega)
          rw [e2'] at e1'
          injection e1' with e1'
          injection e1' with e1'
          subst e1'
          exact hc
        have hcl : ∀ ty, (Builtin.clear_ #[24] ty #[.slice (some ⟨g, ii * 3, none⟩) (L.length - ii) (cap - ii)]).run Try.prog wr = .ok (.tuple #[]) (wr.setCells g (ii * 3) (Builtin.zeroCells (Value.agg #[.string ⟨#[]⟩, .string ⟨#[]⟩, .int .i64 0]).cells (L.length - ii)).toList) := fun ty => by
          refine run_clear_cells wr _ 62 ty (.agg #[.string ⟨#[]⟩, .string ⟨#[]⟩, .int .i64 0]) Try.underlying24 (fun W => Try.zeroValue62 W) g (ii * 3) _ _ (by omega) ?_ ?_ ?_
          · intro v hv
            simp only [Builtin.zeroCells, Value.cells, Array.toList_map, List.mem_map] at hv
            obtain ⟨i, -, rfl⟩ := hv
            have hm : i % 3 = 0 ∨ i % 3 = 1 ∨ i % 3 = 2 := by omega
            rcases hm with e | e | e <;> simp [e, Value.oneCell']
          · intro j hj
            rw [zeroCells_len] at hj
            simp only [Value.cells] at hj
            have hj2 : j < (L.length - ii) * 3 := hj
            have := (hcell (ii + j / 3) (by omega) (j % 3) (Nat.mod_lt _ (by decide))).1
            rw [show ii * 3 + j = (ii + j / 3) * 3 + j % 3 by omega, this]; rfl
          · intro j hj
            rw [zeroCells_len] at hj
            simp only [Value.cells] at hj
            have hj2 : j < (L.length - ii) * 3 := hj
            have := (hcell (ii + j / 3) (by omega) (j % 3) (Nat.mod_lt _ (by decide))).2
            rw [show ii * 3 + j = (ii + j / 3) * 3 + j % 3 by omega, this]
        generalize (Builtin.zeroCells (Value.agg #[.string ⟨#[]⟩, .string ⟨#[]⟩, .int .i64 0]).cells (L.length - ii)).toList = zs at *
        have SF : Hid (SliceG (wr.setCells g (ii * 3) zs) B (.slice (some ⟨g, 0, none⟩) ii cap) Z) := by
          show SliceG _ _ _ _
          rw [← HFil.out]
          refine ⟨⟨_, _, by rw [hlen], fun _ => ⟨g, rfl, hBg, ?_, fun j hj o ho => ⟨?_, ?_⟩⟩⟩, _, _, by rw [hlen], by rw [hlen]; omega, fun h => by cases h⟩
          · exact Nat.lt_of_lt_of_le hgr (below_setCellsK (Nat.le_refl g) zs (ii * 3) wr).size
          · rw [World.cell?_setCells_out g zs (ii * 3) wr ⟨g, j * 3 + o, none⟩ (fun _ _ => .inl (by show j * 3 + o < ii * 3; rw [hlen] at hj; omega)), (hcell j (by omega) o ho).1, hc1 j (by omega)]
            rfl
          · rw [World.frozen?_setCells]; exact (hcell j (by rw [hlen] at hj; omega) o ho).2
        have BF : Hid (Below B w (wr.setCells g (ii * 3) zs)) := HB.out.trans (below_setCellsK hBg zs (ii * 3) wr)
        have i0 : (0 : Int) ≤ ii := by omega
        have i1 : (ii : Int) ≤ L.length := by omega
        have i2 : (ii : Int) ≤ cap := by omega
        have i3 : ¬ (ii = cap) := by omega
        clear hcell hcs hc1 HC HB
        go_wp2
        go_ret
        exact ⟨_, rfl, SF.out, BF.out⟩
  · have HZ : Hid (Z = L) := HAll.out hp
    have S1 : Hid (SliceG w1 B (.slice q L.length cap) L) := HSg.out.below hb1
    have B1 : Hid (Below B w w1) := hb1.mono hB
    clear hp hb1
    go_wp2
    go_ret
    exact ⟨_, rfl, by rw [HZ.out]; exact S1.out, B1.out⟩
set_option maxRecDepth 10000 in
set_option maxHeartbeats 4000000 in
theorem indexPut_any (b1 b2 : Nat) (p : Gr → Bool) (q : Option Addr) (cap B : Nat) (L : List Gr) (w : World) (hs : SliceG w B (.slice q L.length cap) L) (hn : L.length ≤ 1048576)
    (KP : ∀ (c : Gr) (W : World), Below w.heap.size w W → Calls Try.prog 54 #[grV c, .pointer (some ⟨b1, 0, none⟩), .pointer (some ⟨b2, 0, none⟩)] W fun e w' => e = .returned (.bool (p c)) ∧ Below W.heap.size W w') :
    Calls Try.prog 72 #[.slice q L.length cap, .func (.func 54) #[] #[.pointer (some ⟨b1, 0, none⟩), .pointer (some ⟨b2, 0, none⟩)]] w fun e w' => ((∃ k, k < L.length ∧ e = .returned (.int .i64 (k : Nat)) ∧ p (atG L k) = true ∧ ∀ j, j < k → p (atG L j) = false) ∨ (e = .returned (.int .i64 (-1)) ∧ ∀ j, j < L.length → p (atG L j) = false)) ∧ Below w.heap.size w w' := by
  obtain ⟨⟨q', cap', e1, hg⟩, -⟩ := hs
  injection e1 with e1 _ e3
  subst e1 e3
  have HG : Hid (0 < L.length → ∃ g, q = some ⟨g, 0, none⟩ ∧ g < w.heap.size ∧ ∀ j, j < L.length → ∀ o, o < 3 → w.cell? ⟨g, j * 3 + o, none⟩ = some (grC (atG L j) o)) := fun h0 => by
    obtain ⟨g, e, -, hgw, hc⟩ := hg h0
    exact ⟨g, e, hgw, fun j hj o ho => (hc j hj o ho).1⟩
  have KH : Hid (∀ (c : Gr) (W : World), Below w.heap.size w W → Calls Try.prog 54 #[grV c, .pointer (some ⟨b1, 0, none⟩), .pointer (some ⟨b2, 0, none⟩)] W fun e w' => e = .returned (.bool (p c)) ∧ Below W.heap.size W w') := KP
  clear hg KP
  generalize hpp : p = pr at *
  clear hpp
  go_enter Try.func72, Try.ntmps72
  go_wp2
  go_loopw [8] (fun i wr => ∃ j : Nat, j ≤ L.length ∧ i = .int .i64 j ∧ Hid (Below w.heap.size w wr) ∧ Hid (∀ i', i' < j → pr (atG L i') = false)) (fun i _ => L.length - (intOf i).toNat)
  case atStart => exact ⟨0, Nat.zero_le _, rfl, Below.refl _ _, fun j hj => absurd hj (by omega)⟩
  case round =>
    obtain ⟨j, hj, rfl, HB, HR⟩ := hrel
    by_cases hlt : j < L.length
    · obtain ⟨g, rfl, hgw, hc⟩ := HG.out (by omega)
      have j0 : (0 : Int) ≤ j := by omega
      have j1 : (j : Int) < L.length := by omega
      have HN1 : Hid (pr (atG L j) = false → ∀ i', i' < j + 1 → pr (atG L i') = false) := fun e i' hi' => by
        by_cases e2 : i' = j
        · subst e2; exact e
        · exact HR.out i' (by omega)
      have HS0 : Hid (∀ W, Below w.heap.size w W → Calls Try.prog 54 #[.agg #[.string (atG L j).tp, .string (atG L j).si, .int .i64 (atG L j).un], .pointer (some ⟨b1, 0, none⟩), .pointer (some ⟨b2, 0, none⟩)] W fun e w' => e = .returned (.bool (pr (atG L j))) ∧ Below W.heap.size W w') := fun W h => KH.out (atG L j) W h
      have c0 : wr.cell? ⟨g, j * 3, none⟩ = some (.string (atG L j).tp) := by rw [(bcell HB.out).1 _ _ hgw]; exact hc j hlt 0 (by omega)
      have c1 : wr.cell? ⟨g, j * 3 + 1, none⟩ = some (.string (atG L j).si) := by rw [(bcell HB.out).1 _ _ hgw]; exact hc j hlt 1 (by omega)
      have c2 : wr.cell? ⟨g, j * 3 + 2, none⟩ = some (.int .i64 (atG L j).un) := by rw [(bcell HB.out).1 _ _ hgw]; exact hc j hlt 2 (by omega)
      have HBA : Hid (∀ o, Below w.heap.size w (wr.alloc o)) := fun o => HB.out.alloc HB.out.size _
      clear hc KH
      generalize hsm : pr (atG L j) = sm at *
      have HSM : Hid (pr (atG L j) = sm) := hsm
      clear hsm
      have HKK : Hid (∀ i', i' < j → pr (atG L i') = false) := HR.out
      generalize hyy : atG L j = y at *
      obtain ⟨tp', si', un'⟩ := y
      dsimp only at *
      go_wp2_with fail
      refine (HS0.out _ (by first | exact HB.out | exact HBA.out _)).mono ?_
      rintro e w2 ⟨rfl, hb2⟩
      have B2 : Hid (Below w.heap.size w w2) := by first | exact HB.out.trans (hb2.mono HB.out.size) | exact (HBA.out _).trans (hb2.mono (HBA.out _).size)
      clear hb2
      cases sm with
      | true =>
        go_wp2
        go_ret
        exact ⟨.inl ⟨j, hlt, rfl, by rw [hyy]; exact HSM.out, HKK.out⟩, B2.out⟩
      | false =>
        have HN2 : Hid (∀ i', i' < j + 1 → pr (atG L i') = false) := HN1.out rfl
        go_wp2
        go_roundw
        case rel => exact ⟨j + 1, by omega, by go_num, B2, HN2⟩
        case measure => simp [intOf]; omega
    · go_wp2
      go_ret
      exact ⟨.inr ⟨rfl, fun i hi => HR.out i (by omega)⟩, HB.out⟩
set_option maxRecDepth 10000 in
set_option maxHeartbeats 8000000 in
theorem deletePut_any (b1 b2 : Nat) (p : Gr → Bool) (v : Value) (B : Nat) (L : List Gr) (w : World) (hs : SliceG w B v L) (hB : B ≤ w.heap.size) (hn : L.length ≤ 1000)
    (KP : ∀ (c : Gr) (W : World), Below B w W → Calls Try.prog 54 #[grV c, .pointer (some ⟨b1, 0, none⟩), .pointer (some ⟨b2, 0, none⟩)] W fun e w' => e = .returned (.bool (p c)) ∧ Below W.heap.size W w') :
    Calls Try.prog 42 #[v, .func (.func 54) #[] #[.pointer (some ⟨b1, 0, none⟩), .pointer (some ⟨b2, 0, none⟩)]] w fun e w' => ∃ v', e = .returned v' ∧ (SliceG w' B v' (L.filter (fun g => !(p g))) ∧ (PlacedG v → PlacedG v')) ∧ Below B w w' := by
  have HSg : Hid (SliceG w B v L) := hs
  obtain ⟨⟨q, cap, rfl, hg⟩, q2, cap2, e2, hcap, hqn⟩ := hs
  injection e2 with e3 _ e4
  subst e3 e4
  have KI : Hid (Calls Try.prog 72 #[.slice q L.length cap, .func (.func 54) #[] #[.pointer (some ⟨b1, 0, none⟩), .pointer (some ⟨b2, 0, none⟩)]] w fun e w' => ((∃ k, k < L.length ∧ e = .returned (.int .i64 (k : Nat)) ∧ p (atG L k) = true ∧ ∀ j, j < k → p (atG L j) = false) ∨ (e = .returned (.int .i64 (-1)) ∧ ∀ j, j < L.length → p (atG L j) = false)) ∧ Below w.heap.size w w') := indexPut_any b1 b2 p q cap B L w HSg.out (by omega) (fun c W h => KP c W (h.mono hB))
  have KH : Hid (∀ (c : Gr) (W : World), Below B w W → Calls Try.prog 54 #[grV c, .pointer (some ⟨b1, 0, none⟩), .pointer (some ⟨b2, 0, none⟩)] W fun e w' => e = .returned (.bool (p c)) ∧ Below W.heap.size W w') := KP
  have HGr : Hid (0 < L.length → ∃ g, q = some ⟨g, 0, none⟩ ∧ B ≤ g ∧ g < w.heap.size) := fun h0 => by
    obtain ⟨g, e, h1, h2, -⟩ := hg h0
    exact ⟨g, e, h1, h2⟩
  have HAll : Hid ((∀ j, j < L.length → p (atG L j) = false) → L.filter (fun g => !(p g)) = L) := fun h => by
    refine List.filter_eq_self.2 fun x hx => ?_
    obtain ⟨j, hj, rfl⟩ := List.mem_iff_getElem.1 hx
    have := h j hj
    rw [atG_get hj] at this
    show (!_) = true
    rw [this]; rfl
  have HFil : Hid (keepG (fun g => !(p g)) L L.length = L.filter (fun g => !(p g))) := keepG_all _ L
  have HYs : Hid (∀ k, k < L.length → p (atG L k) = false → keepG (fun g => !(p g)) L (k + 1) = keepG (fun g => !(p g)) L k ++ [atG L k]) := fun k hk h => keepG_yes hk (by show (!_) = true; rw [h]; rfl)
  have HNs : Hid (∀ k, k < L.length → p (atG L k) = true → keepG (fun g => !(p g)) L (k + 1) = keepG (fun g => !(p g)) L k) := fun k hk h => keepG_no hk (by show (!_) = false; rw [h]; rfl)
  have HFirst : Hid (∀ k, k < L.length → p (atG L k) = true → (∀ j, j < k → p (atG L j) = false) → keepG (fun g => !(p g)) L (k + 1) = L.take k) := fun k hk h h2 => by
    rw [keepG_no hk (by show (!_) = false; rw [h]; rfl)]
    exact keep_same (by omega) (fun j hj => by show (!_) = true; rw [h2 j hj]; rfl)
  clear hg KP
  generalize L.filter (fun g => !(p g)) = Z at *
  generalize hpk : keepG (fun g => !(p g)) = kp at *
  clear hpk
  generalize hpp : p = pr at *
  clear hpp
  go_enter Try.func42, Try.ntmps42
  go_wp2_with fail
  refine KI.out.mono ?_
  rintro e w1 ⟨⟨k, hk, rfl, hp, hbf⟩ | ⟨rfl, hp⟩, hb1⟩
  · obtain ⟨g, rfl, hBg, hgw⟩ := HGr.out (by omega)
    have hkeep : kp L (k + 1) = L.take k := HFirst.out k hk hp hbf
    have S1 : Hid (SliceR w1 B 3 (.slice (some ⟨g, 0, none⟩) L.length cap) L.length (fun j o => grC (atG L j) o)) := (HSg.out.1).below hb1
    have hgw1 : g < w1.heap.size := Nat.lt_of_lt_of_le hgw hb1.size
    have B1 : Hid (Below B w w1) := hb1.mono hB
    have HSt : Hid (∃ cur : Nat → Gr, SliceR w1 B 3 (.slice (some ⟨g, 0, none⟩) L.length cap) L.length (fun j o => grC (cur j) o) ∧ (∀ t, t < k → cur t = atG (kp L (k + 1)) t) ∧ ∀ t, k + 1 ≤ t → t < L.length → cur t = atG L t) := ⟨atG L, S1.out, fun t ht => by rw [hkeep, atG_take (by omega) ht], fun t _ _ => rfl⟩
    have hkl : (kp L (k + 1)).length = k := by rw [hkeep, List.length_take]; omega
    have qk : ((k : Int) == -1) = false := beq_eq_false_iff_ne.2 (by omega)
    clear hb1 hp hbf KI HSg S1 HFirst HAll HGr hkeep
    go_wp2
    go_loopw [5, 6] (fun i j wr => ∃ ii jj : Nat, i = .int .i64 ii ∧ j = .int .i64 jj ∧ ii < jj ∧ jj ≤ L.length ∧ (kp L jj).length = ii ∧ g < wr.heap.size ∧ Hid (∃ cur : Nat → Gr, SliceR wr B 3 (.slice (some ⟨g, 0, none⟩) L.length cap) L.length (fun j o => grC (cur j) o) ∧ (∀ t, t < ii → cur t = atG (kp L jj) t) ∧ ∀ t, jj ≤ t → t < L.length → cur t = atG L t) ∧ Hid (Below B w wr)) (fun _ j _ => L.length - (intOf j).toNat)
    case atStart => exact ⟨k, k + 1, rfl, by first | rfl | go_num, by omega, by omega, hkl, hgw1, HSt, B1⟩
    case round =>
      obtain ⟨ii, jj, rfl, rfl, hij, hjl, hlen, hgr, HC, HB⟩ := hrel
      clear HSt B1 hkl hgw1 qk
      by_cases hlt : jj < L.length
      · obtain ⟨cur, hcs, hc1, hc2⟩ := HC.out
        have j0 : (0 : Int) ≤ jj := by omega
        have j1 : (jj : Int) < L.length := by omega
        have i0 : (0 : Int) ≤ ii := by omega
        have i1 : (ii : Int) < L.length := by omega
        have hcell : ∀ t, t < L.length → ∀ o, o < 3 → wr.cell? ⟨g, t * 3 + o, none⟩ = some (grC (cur t) o) ∧ wr.frozen? ⟨g, t * 3 + o, none⟩ = false := by
          obtain ⟨p', c', e', hh⟩ := hcs
          injection e' with e1'
          obtain ⟨g', e2', -, -, hc⟩ := hh (by omega)
          rw [e2'] at e1'
          injection e1' with e1'
          injection e1' with e1'
          subst e1'
          exact hc
        have hcj := hc2 jj (Nat.le_refl _) hlt
        have HCell : Hid (∀ t, t < L.length → ∀ o, o < 3 → wr.cell? ⟨g, t * 3 + o, none⟩ = some (grC (cur t) o) ∧ wr.frozen? ⟨g, t * 3 + o, none⟩ = false) := hcell
        have c0 : wr.cell? ⟨g, jj * 3, none⟩ = some (.string (atG L jj).tp) := by rw [← hcj]; exact (hcell jj hlt 0 (by omega)).1
        have c1 : wr.cell? ⟨g, jj * 3 + 1, none⟩ = some (.string (atG L jj).si) := by rw [← hcj]; exact (hcell jj hlt 1 (by omega)).1
        have c2 : wr.cell? ⟨g, jj * 3 + 2, none⟩ = some (.int .i64 (atG L jj).un) := by rw [← hcj]; exact (hcell jj hlt 2 (by omega)).1
        have HS0 : Hid (∀ W, Below B w W → Calls Try.prog 54 #[.agg #[.string (atG L jj).tp, .string (atG L jj).si, .int .i64 (atG L jj).un], .pointer (some ⟨b1, 0, none⟩), .pointer (some ⟨b2, 0, none⟩)] W fun e w' => e = .returned (.bool (pr (atG L jj))) ∧ Below W.heap.size W w') := fun W h => KH.out (atG L jj) W h
        have HBA : Hid (∀ o, Below wr.heap.size wr (wr.alloc o)) := fun o => (Below.refl _ _).alloc (Nat.le_refl _) _
        have HBW : Hid (∀ W, Below wr.heap.size wr W → Below B w W) := fun W h => HB.out.trans (h.mono (Nat.le_trans hB HB.out.size))
        have HCS : Hid (SliceR wr B 3 (.slice (some ⟨g, 0, none⟩) L.length cap) L.length (fun j o => grC (cur j) o)) := hcs
        have HC1 : Hid (∀ t, t < ii → cur t = atG (kp L jj) t) := hc1
        have HC2 : Hid (∀ t, jj ≤ t → t < L.length → cur t = atG L t) := hc2
        have HY1 : Hid (pr (atG L jj) = false → kp L (jj + 1) = kp L jj ++ [atG L jj]) := HYs.out jj hlt
        have HN1 : Hid (pr (atG L jj) = true → kp L (jj + 1) = kp L jj) := HNs.out jj hlt
        clear hcell hcs hc1 hc2 hcj HC KH HYs HNs
        generalize hsm : pr (atG L jj) = sm at *
        clear hsm
        generalize hyy : atG L jj = y at *
        obtain ⟨tp', si', un'⟩ := y
        dsimp only at *
        obtain ⟨W0, hW⟩ : ∃ W0, W0 = wr.alloc (.cells #[.string tp', .string si', .int .i64 un'] 62) := ⟨_, rfl⟩
        have hW0 : Hid (W0 = wr.alloc (.cells #[.string tp', .string si', .int .i64 un'] 62)) := hW
        have HBr : Hid (Below wr.heap.size wr W0) := by show Below _ _ _; rw [hW]; exact (Below.refl _ _).alloc (Nat.le_refl _) _
        have n0 : W0.cell? ⟨wr.heap.size, 0, none⟩ = some (.string tp') := by rw [hW]; simp
        have n1 : W0.cell? ⟨wr.heap.size, 1, none⟩ = some (.string si') := by rw [hW]; simp
        have n2 : W0.cell? ⟨wr.heap.size, 2, none⟩ = some (.int .i64 un') := by rw [hW]; simp
        have hbW : wr.heap.size < W0.heap.size := by rw [hW]; simp
        clear hW HBA
        go_upto_region 8 with fail
        rw [← hW0.out]
        clear hW0
        generalize hbb : wr.heap.size = bx at *
        go_wp2_with fail
        refine (HS0.out _ (HBW.out _ HBr.out)).mono ?_
        rintro e w2 ⟨rfl, hb2⟩
        have A2 : Hid (Below bx wr w2) := HBr.out.trans (hb2.mono (Nat.le_of_lt hbW))
        have x0 : w2.cell? ⟨bx, 0, none⟩ = some (.string tp') := ((bcell hb2).1 _ _ hbW).trans n0
        have x1 : w2.cell? ⟨bx, 1, none⟩ = some (.string si') := ((bcell hb2).1 _ _ hbW).trans n1
        have x2 : w2.cell? ⟨bx, 2, none⟩ = some (.int .i64 un') := ((bcell hb2).1 _ _ hbW).trans n2
        have B2 : Hid (Below B w w2) := HBW.out _ A2.out
        have hg2 : g < w2.heap.size := Nat.lt_of_lt_of_le (by rw [hbb]; exact hgr) A2.out.size
        have S2 : Hid (SliceR w2 B 3 (.slice (some ⟨g, 0, none⟩) L.length cap) L.length (fun j o => grC (cur j) o)) := SliceR.below HCS.out (by rw [hbb]; exact A2.out)
        cases sm with
        | true =>
          have hkp := HN1.out rfl
          have HC3 : Hid (∃ cur : Nat → Gr, SliceR w2 B 3 (.slice (some ⟨g, 0, none⟩) L.length cap) L.length (fun j o => grC (cur j) o) ∧ (∀ t, t < ii → cur t = atG (kp L (jj + 1)) t) ∧ ∀ t, jj + 1 ≤ t → t < L.length → cur t = atG L t) := ⟨cur, S2.out, fun t ht => by rw [hkp]; exact HC1.out t ht, fun t h1 h2 => HC2.out t (by omega) h2⟩
          have hlen2 : (kp L (jj + 1)).length = ii := by rw [hkp]; exact hlen
          clear hb2 hkp n0 n1 n2 x0 x1 x2
          go_wp2
          go_roundw
          case rel => exact ⟨ii, jj + 1, rfl, by go_num, by omega, by omega, hlen2, hg2, HC3, B2⟩
          case measure => simp [intOf]; omega
        | false =>
          have hkp := HY1.out rfl
          have hlen2 : (kp L (jj + 1)).length = ii + 1 := by rw [hkp, List.length_append, hlen]; rfl
          obtain ⟨f0, z0⟩ : w2.cell? ⟨g, ii * 3, none⟩ = some (.string (cur ii).tp) ∧ w2.frozen? ⟨g, ii * 3, none⟩ = false := ⟨(A2.out.cell (p := ⟨g, _, none⟩) hgr).trans (HCell.out ii (by omega) 0 (by omega)).1, (A2.out.frozen (p := ⟨g, _, none⟩) hgr).trans (HCell.out ii (by omega) 0 (by omega)).2⟩
          obtain ⟨f1, z1⟩ : w2.cell? ⟨g, ii * 3 + 1, none⟩ = some (.string (cur ii).si) ∧ w2.frozen? ⟨g, ii * 3 + 1, none⟩ = false := ⟨(A2.out.cell (p := ⟨g, _, none⟩) hgr).trans (HCell.out ii (by omega) 1 (by omega)).1, (A2.out.frozen (p := ⟨g, _, none⟩) hgr).trans (HCell.out ii (by omega) 1 (by omega)).2⟩
          obtain ⟨f2, z2⟩ : w2.cell? ⟨g, ii * 3 + 2, none⟩ = some (.int .i64 (cur ii).un) ∧ w2.frozen? ⟨g, ii * 3 + 2, none⟩ = false := ⟨(A2.out.cell (p := ⟨g, _, none⟩) hgr).trans (HCell.out ii (by omega) 2 (by omega)).1, (A2.out.frozen (p := ⟨g, _, none⟩) hgr).trans (HCell.out ii (by omega) 2 (by omega)).2⟩
          have HC3 : Hid (∃ cur : Nat → Gr, SliceR (((w2.setCell ⟨g, ii * 3, none⟩ (.string tp')).setCell ⟨g, ii * 3 + 1, none⟩ (.string si')).setCell ⟨g, ii * 3 + 2, none⟩ (.int .i64 un')) B 3 (.slice (some ⟨g, 0, none⟩) L.length cap) L.length (fun j o => grC (cur j) o) ∧ (∀ t, t < ii + 1 → cur t = atG (kp L (jj + 1)) t) ∧ ∀ t, jj + 1 ≤ t → t < L.length → cur t = atG L t) := by
            refine ⟨fun t => if t = ii then ⟨tp', si', un'⟩ else cur t, SliceR.congr (SliceR.putGr S2.out ii (by omega) ⟨tp', si', un'⟩) (fun j hj o ho => ?_), fun t ht => ?_, fun t h1 h2 => ?_⟩
            · by_cases e : j = ii
              · simp only [if_pos e]
              · simp only [if_neg e]
            · rw [hkp, atG_snoc, hlen]
              by_cases e : t = ii
              · simp only [if_pos e]; rw [if_neg (by omega)]
              · simp only [if_neg e]; rw [if_pos (by omega)]; exact HC1.out t (by omega)
            · simp only [if_neg (show ¬ t = ii by omega)]; exact HC2.out t (by omega) h2
          have B3 : Hid (Below B w (((w2.setCell ⟨g, ii * 3, none⟩ (.string tp')).setCell ⟨g, ii * 3 + 1, none⟩ (.string si')).setCell ⟨g, ii * 3 + 2, none⟩ (.int .i64 un'))) := ((B2.out.setCell hBg _).setCell hBg _).setCell hBg _
          have hg3 : g < (((w2.setCell ⟨g, ii * 3, none⟩ (.string tp')).setCell ⟨g, ii * 3 + 1, none⟩ (.string si')).setCell ⟨g, ii * 3 + 2, none⟩ (.int .i64 un')).heap.size := by simpa using hg2
          generalize (cur ii).tp = o0 at *
          generalize (cur ii).si = o1 at *
          generalize (cur ii).un = o2 at *
          clear hb2 hkp c0 c1 c2 HCell HCS n0 n1 n2
          go_wp2
          go_roundw
          case rel => exact ⟨ii + 1, jj + 1, by go_num, by go_num, by omega, by omega, hlen2, hg3, HC3, B3⟩
          case measure => simp [intOf]; omega
      · obtain rfl : jj = L.length := by omega
        obtain ⟨cur, hcs, hc1, -⟩ := HC.out
        have hcell : ∀ t, t < L.length → ∀ o, o < 3 → wr.cell? ⟨g, t * 3 + o, none⟩ = some (grC (cur t) o) ∧ wr.frozen? ⟨g, t * 3 + o, none⟩ = false := by
          obtain ⟨p', c', e', hh⟩ := hcs
          injection e' with e1'
          obtain ⟨g', e2', -, -, hc⟩ := hh (by omega)
          rw [e2'] at e1'
          injection e1' with e1'
          injection e1' with e1'
          subst e1'
          exact hc
        have hcl : ∀ ty, (Builtin.clear_ #[24] ty #[.slice (some ⟨g, ii * 3, none⟩) (L.length - ii) (cap - ii)]).run Try.prog wr = .ok (.tuple #[]) (wr.setCells g (ii * 3) (Builtin.zeroCells (Value.agg #[.string ⟨#[]⟩, .string ⟨#[]⟩, .int .i64 0]).cells (L.length - ii)).toList) := fun ty => by
          refine run_clear_cells wr _ 62 ty (.agg #[.string ⟨#[]⟩, .string ⟨#[]⟩, .int .i64 0]) Try.underlying24 (fun W => Try.zeroValue62 W) g (ii * 3) _ _ (by omega) ?_ ?_ ?_
          · intro v hv
            simp only [Builtin.zeroCells, Value.cells, Array.toList_map, List.mem_map] at hv
            obtain ⟨i, -, rfl⟩ := hv
            have hm : i % 3 = 0 ∨ i % 3 = 1 ∨ i % 3 = 2 := by omega
            rcases hm with e | e | e <;> simp [e, Value.oneCell']
          · intro j hj
            rw [zeroCells_len] at hj
            simp only [Value.cells] at hj
            have hj2 : j < (L.length - ii) * 3 := hj
            have := (hcell (ii + j / 3) (by omega) (j % 3) (Nat.mod_lt _ (by decide))).1
            rw [show ii * 3 + j = (ii + j / 3) * 3 + j % 3 by omega, this]; rfl
          · intro j hj
            rw [zeroCells_len] at hj
            simp only [Value.cells] at hj
            have hj2 : j < (L.length - ii) * 3 := hj
            have := (hcell (ii + j / 3) (by omega) (j % 3) (Nat.mod_lt _ (by decide))).2
            rw [show ii * 3 + j = (ii + j / 3) * 3 + j % 3 by omega, this]
        generalize (Builtin.zeroCells (Value.agg #[.string ⟨#[]⟩, .string ⟨#[]⟩, .int .i64 0]).cells (L.length - ii)).toList = zs at *
        have SF : Hid (SliceG (wr.setCells g (ii * 3) zs) B (.slice (some ⟨g, 0, none⟩) ii cap) Z) := by
          show SliceG _ _ _ _
          rw [← HFil.out]
          refine ⟨⟨_, _, by rw [hlen], fun _ => ⟨g, rfl, hBg, ?_, fun j hj o ho => ⟨?_, ?_⟩⟩⟩, _, _, by rw [hlen], by rw [hlen]; omega, fun h => by cases h⟩
          · exact Nat.lt_of_lt_of_le hgr (below_setCellsK (Nat.le_refl g) zs (ii * 3) wr).size
          · rw [World.cell?_setCells_out g zs (ii * 3) wr ⟨g, j * 3 + o, none⟩ (fun _ _ => .inl (by show j * 3 + o < ii * 3; rw [hlen] at hj; omega)), (hcell j (by omega) o ho).1, hc1 j (by omega)]
            rfl
          · rw [World.frozen?_setCells]; exact (hcell j (by rw [hlen] at hj; omega) o ho).2
        have BF : Hid (Below B w (wr.setCells g (ii * 3) zs)) := HB.out.trans (below_setCellsK hBg zs (ii * 3) wr)
        have i0 : (0 : Int) ≤ ii := by omega
        have i1 : (ii : Int) ≤ L.length := by omega
        have i2 : (ii : Int) ≤ cap := by omega
        have i3 : ¬ (ii = cap) := by omega
        clear hcell hcs hc1 HC HB
        go_wp2
        go_ret
        exact ⟨_, rfl, ⟨SF.out, fun _ => .inr ⟨g, ii, cap, rfl, by omega⟩⟩, BF.out⟩
  · have HZ : Hid (Z = L) := HAll.out hp
    have S1 : Hid (SliceG w1 B (.slice q L.length cap) L) := HSg.out.below hb1
    have B1 : Hid (Below B w w1) := hb1.mono hB
    clear hp hb1
    go_wp2
    go_ret
    exact ⟨_, rfl, ⟨by rw [HZ.out]; exact S1.out, fun h => h⟩, B1.out⟩
set_option maxRecDepth 10000 in
set_option maxHeartbeats 4000000 in
theorem indexLive_any (b1 b2 : Nat) (p : Gr → Bool) (q : Option Addr) (cap B : Nat) (L : List Gr) (w : World) (hs : SliceG w B (.slice q L.length cap) L) (hn : L.length ≤ 1048576)
    (KP : ∀ (c : Gr) (W : World), Below w.heap.size w W → Calls Try.prog 85 #[grV c, .pointer (some ⟨b1, 0, none⟩), .pointer (some ⟨b2, 0, none⟩)] W fun e w' => e = .returned (.bool (p c)) ∧ Below W.heap.size W w') :
    Calls Try.prog 72 #[.slice q L.length cap, .func (.func 85) #[] #[.pointer (some ⟨b1, 0, none⟩), .pointer (some ⟨b2, 0, none⟩)]] w fun e w' => ((∃ k, k < L.length ∧ e = .returned (.int .i64 (k : Nat)) ∧ p (atG L k) = true ∧ ∀ j, j < k → p (atG L j) = false) ∨ (e = .returned (.int .i64 (-1)) ∧ ∀ j, j < L.length → p (atG L j) = false)) ∧ Below w.heap.size w w' := by
  obtain ⟨⟨q', cap', e1, hg⟩, -⟩ := hs
  injection e1 with e1 _ e3
  subst e1 e3
  have HG : Hid (0 < L.length → ∃ g, q = some ⟨g, 0, none⟩ ∧ g < w.heap.size ∧ ∀ j, j < L.length → ∀ o, o < 3 → w.cell? ⟨g, j * 3 + o, none⟩ = some (grC (atG L j) o)) := fun h0 => by
    obtain ⟨g, e, -, hgw, hc⟩ := hg h0
    exact ⟨g, e, hgw, fun j hj o ho => (hc j hj o ho).1⟩
  have KH : Hid (∀ (c : Gr) (W : World), Below w.heap.size w W → Calls Try.prog 85 #[grV c, .pointer (some ⟨b1, 0, none⟩), .pointer (some ⟨b2, 0, none⟩)] W fun e w' => e = .returned (.bool (p c)) ∧ Below W.heap.size W w') := KP
  clear hg KP
  generalize hpp : p = pr at *
  clear hpp
  go_enter Try.func72, Try.ntmps72
  go_wp2
  go_loopw [8] (fun i wr => ∃ j : Nat, j ≤ L.length ∧ i = .int .i64 j ∧ Hid (Below w.heap.size w wr) ∧ Hid (∀ i', i' < j → pr (atG L i') = false)) (fun i _ => L.length - (intOf i).toNat)
  case atStart => exact ⟨0, Nat.zero_le _, rfl, Below.refl _ _, fun j hj => absurd hj (by omega)⟩
  case round =>
    obtain ⟨j, hj, rfl, HB, HR⟩ := hrel
    by_cases hlt : j < L.length
    · obtain ⟨g, rfl, hgw, hc⟩ := HG.out (by omega)
      have j0 : (0 : Int) ≤ j := by omega
      have j1 : (j : Int) < L.length := by omega
      have HN1 : Hid (pr (atG L j) = false → ∀ i', i' < j + 1 → pr (atG L i') = false) := fun e i' hi' => by
        by_cases e2 : i' = j
        · subst e2; exact e
        · exact HR.out i' (by omega)
      have HS0 : Hid (∀ W, Below w.heap.size w W → Calls Try.prog 85 #[.agg #[.string (atG L j).tp, .string (atG L j).si, .int .i64 (atG L j).un], .pointer (some ⟨b1, 0, none⟩), .pointer (some ⟨b2, 0, none⟩)] W fun e w' => e = .returned (.bool (pr (atG L j))) ∧ Below W.heap.size W w') := fun W h => KH.out (atG L j) W h
      have c0 : wr.cell? ⟨g, j * 3, none⟩ = some (.string (atG L j).tp) := by rw [(bcell HB.out).1 _ _ hgw]; exact hc j hlt 0 (by omega)
      have c1 : wr.cell? ⟨g, j * 3 + 1, none⟩ = some (.string (atG L j).si) := by rw [(bcell HB.out).1 _ _ hgw]; exact hc j hlt 1 (by omega)
      have c2 : wr.cell? ⟨g, j * 3 + 2, none⟩ = some (.int .i64 (atG L j).un) := by rw [(bcell HB.out).1 _ _ hgw]; exact hc j hlt 2 (by omega)
      have HBA : Hid (∀ o, Below w.heap.size w (wr.alloc o)) := fun o => HB.out.alloc HB.out.size _
      clear hc KH
      generalize hsm : pr (atG L j) = sm at *
      have HSM : Hid (pr (atG L j) = sm) := hsm
      clear hsm
      have HKK : Hid (∀ i', i' < j → pr (atG L i') = false) := HR.out
      generalize hyy : atG L j = y at *
      obtain ⟨tp', si', un'⟩ := y
      dsimp only at *
      go_wp2_with fail
      refine (HS0.out _ (by first | exact HB.out | exact HBA.out _)).mono ?_
      rintro e w2 ⟨rfl, hb2⟩
      have B2 : Hid (Below w.heap.size w w2) := by first | exact HB.out.trans (hb2.mono HB.out.size) | exact (HBA.out _).trans (hb2.mono (HBA.out _).size)
      clear hb2
      cases sm with
      | true =>
        go_wp2
        go_ret
        exact ⟨.inl ⟨j, hlt, rfl, by rw [hyy]; exact HSM.out, HKK.out⟩, B2.out⟩
      | false =>
        have HN2 : Hid (∀ i', i' < j + 1 → pr (atG L i') = false) := HN1.out rfl
        go_wp2
        go_roundw
        case rel => exact ⟨j + 1, by omega, by go_num, B2, HN2⟩
        case measure => simp [intOf]; omega
    · go_wp2
      go_ret
      exact ⟨.inr ⟨rfl, fun i hi => HR.out i (by omega)⟩, HB.out⟩
set_option maxRecDepth 10000 in
set_option maxHeartbeats 4000000 in
theorem containsLive_any (b1 b2 : Nat) (p : Gr → Bool) (q : Option Addr) (cap B : Nat) (L : List Gr) (w : World) (hs : SliceG w B (.slice q L.length cap) L) (hn : L.length ≤ 1048576)
    (KP : ∀ (c : Gr) (W : World), Below w.heap.size w W → Calls Try.prog 85 #[grV c, .pointer (some ⟨b1, 0, none⟩), .pointer (some ⟨b2, 0, none⟩)] W fun e w' => e = .returned (.bool (p c)) ∧ Below W.heap.size W w') :
    Calls Try.prog 84 #[.slice q L.length cap, .func (.func 85) #[] #[.pointer (some ⟨b1, 0, none⟩), .pointer (some ⟨b2, 0, none⟩)]] w fun e w' => e = .returned (.bool (L.any p)) ∧ Below w.heap.size w w' := by
  have KI : Hid (Calls Try.prog 72 #[.slice q L.length cap, .func (.func 85) #[] #[.pointer (some ⟨b1, 0, none⟩), .pointer (some ⟨b2, 0, none⟩)]] w fun e w' => (∃ r : Int, e = .returned (.int .i64 r) ∧ decide (0 ≤ r) = L.any p) ∧ Below w.heap.size w w') := by
    refine (indexLive_any b1 b2 p q cap B L w hs hn KP).mono ?_
    rintro e w' ⟨⟨k, hk, rfl, hp, -⟩ | ⟨rfl, hp⟩, hb⟩
    · exact ⟨⟨_, rfl, by rw [any_yes hk hp, decide_eq_true_iff]; omega⟩, hb⟩
    · exact ⟨⟨_, rfl, by rw [any_no hp]; decide⟩, hb⟩
  generalize L.any p = R at *
  clear hs KP
  generalize L.length = n at *
  go_enter Try.func84, Try.ntmps84
  go_wp2_with fail
  refine KI.out.mono ?_
  rintro e w2 ⟨⟨r, rfl, hr⟩, hb2⟩
  have HQ : Hid (decide (0 ≤ r) = R) := hr
  clear hr
  go_wp2
  go_ret
  exact ⟨ret_bool HQ.out, hb2⟩
end Go.Proofs.Ytehnklgpdjfcgaa
