/- 3 of this claim's texts, one behind the other. -/
import Derived.Test.YtecaeolgheefmaaPart1
import Derived.Test.YtecaeolgheefmaaPart7
import Derived.Test.YtecaeolgheefmaaPart5
import Derived.Deep.RegionHeld3
import Derived.Deep.DeepCutAuto
/- The walks of the library's IndexFunc, ContainsFunc and DeleteFunc at grants, over the program's predicates. Written by delfunc.py. -/
namespace Go.Proofs.Ytecaeolgheefmaa
open Go.RowKit

theorem any_yes {p : Gr → Bool} {L : List Gr} {k : Nat} (hk : k < L.length) (h : p (atG L k) = true) : L.any p = true :=
  List.any_eq_true.2 ⟨atG L k, by rw [atG_get hk]; exact List.getElem_mem hk, h⟩
theorem any_no {p : Gr → Bool} {L : List Gr} (h : ∀ j, j < L.length → p (atG L j) = false) : L.any p = false := by
  refine List.any_eq_false.2 fun x hx => ?_
  obtain ⟨j, hj, rfl⟩ := List.mem_iff_getElem.1 hx
  have := h j hj
  rw [atG_get hj] at this
  rw [this]; decide
theorem keep_same {p : Gr → Bool} {L : List Gr} {k : Nat} (hk : k ≤ L.length) (h : ∀ j, j < k → p (atG L j) = true) : keepG p L k = L.take k := by
  unfold keepG
  rw [List.filter_eq_self]
  intro x hx
  obtain ⟨j, hj, rfl⟩ := List.mem_iff_getElem.1 hx
  have h1 : j < k := by rw [List.length_take] at hj; omega
  have := h j h1
  rw [atG_get (by omega)] at this
  rw [List.getElem_take]; exact this
theorem atG_take {L : List Gr} {k j : Nat} (hk : k ≤ L.length) (hj : j < k) : atG (L.take k) j = atG L j := by
  rw [atG_get (by rw [List.length_take]; omega), atG_get (by omega), List.getElem_take]
theorem atG_snoc {L : List Gr} {x : Gr} {j : Nat} : atG (L ++ [x]) j = if j < L.length then atG L j else if j = L.length then x else grNone := by
  unfold atG
  rw [List.getD_eq_getElem?_getD, List.getD_eq_getElem?_getD]
  by_cases h : j < L.length
  · rw [if_pos h, List.getElem?_append_left h]
  · rw [if_neg h, List.getElem?_append_right (by omega)]
    by_cases e : j = L.length
    · rw [if_pos e, e]; simp
    · rw [if_neg e, List.getElem?_eq_none (by simp; omega)]; rfl
set_option maxRecDepth 10000 in
set_option maxHeartbeats 4000000 in
theorem indexOld_any (now : Int) (q : Option Addr) (cap B : Nat) (L : List Gr) (w : World) (hs : SliceG w B (.slice q L.length cap) L) (hn : L.length ≤ 1048576)
    (KP : ∀ (c : Gr) (W : World), Below w.heap.size w W → Calls Try.prog 45 #[.int .i64 now, grV c] W fun e w' => e = .returned (.bool ((fun g => !(liveG now g)) c)) ∧ Below W.heap.size W w') :
    Calls Try.prog 73 #[.slice q L.length cap, .func (.func 45) #[.int .i64 now] #[]] w fun e w' => ((∃ k, k < L.length ∧ e = .returned (.int .i64 (k : Nat)) ∧ (fun g => !(liveG now g)) (atG L k) = true ∧ ∀ j, j < k → (fun g => !(liveG now g)) (atG L j) = false) ∨ (e = .returned (.int .i64 (-1)) ∧ ∀ j, j < L.length → (fun g => !(liveG now g)) (atG L j) = false)) ∧ Below w.heap.size w w' := by
  obtain ⟨⟨q', cap', e1, hg⟩, -⟩ := hs
  injection e1 with e1 _ e3
  subst e1 e3
  have HG : Hid (0 < L.length → ∃ g, q = some ⟨g, 0, none⟩ ∧ g < w.heap.size ∧ ∀ j, j < L.length → ∀ o, o < 3 → w.cell? ⟨g, j * 3 + o, none⟩ = some (grC (atG L j) o)) := fun h0 => by
    obtain ⟨g, e, -, hgw, hc⟩ := hg h0
    exact ⟨g, e, hgw, fun j hj o ho => (hc j hj o ho).1⟩
  have KH : Hid (∀ (c : Gr) (W : World), Below w.heap.size w W → Calls Try.prog 45 #[.int .i64 now, grV c] W fun e w' => e = .returned (.bool ((fun g => !(liveG now g)) c)) ∧ Below W.heap.size W w') := KP
  clear hg KP
  generalize hpp : (fun g => !(liveG now g)) = pr at *
  clear hpp
  go_enter Try.func73, Try.ntmps73
  go_wp2
  go_loopw [8] (fun i wr => ∃ j : Nat, j ≤ L.length ∧ i = .int .i64 j ∧ Hid (Below w.heap.size w wr) ∧ Hid (∀ i', i' < j → pr (atG L i') = false)) (fun i _ => L.length - (intOf i).toNat)
  case atStart => exact ⟨0, Nat.zero_le _, rfl, Below.refl _ _, fun j hj => absurd hj (by omega)⟩
  case round =>
    obtain ⟨j, hj, rfl, HB, HR⟩ := hrel
    by_cases hlt : j < L.length
    · obtain ⟨g, rfl, hgw, hc⟩ := HG.out (by omega)
      have j0 : (0 : Int) ≤ j := by omega
      have j1 : (j : Int) < L.length := by omega
      have HN1 : Hid (pr (atG L j) = false → ∀ i', i' < j + 1 → pr (atG L i') = false) := fun e i' hi' => by
        by_cases e2 : i' = j
        · subst e2; exact e
        · exact HR.out i' (by omega)
      have HS0 : Hid (∀ W, Below w.heap.size w W → Calls Try.prog 45 #[.int .i64 now, .agg #[.string (atG L j).tp, .string (atG L j).si, .int .i64 (atG L j).un]] W fun e w' => e = .returned (.bool (pr (atG L j))) ∧ Below W.heap.size W w') := fun W h => KH.out (atG L j) W h
      have c0 : wr.cell? ⟨g, j * 3, none⟩ = some (.string (atG L j).tp) := by rw [(bcell HB.out).1 _ _ hgw]; exact hc j hlt 0 (by omega)
      have c1 : wr.cell? ⟨g, j * 3 + 1, none⟩ = some (.string (atG L j).si) := by rw [(bcell HB.out).1 _ _ hgw]; exact hc j hlt 1 (by omega)
      have c2 : wr.cell? ⟨g, j * 3 + 2, none⟩ = some (.int .i64 (atG L j).un) := by rw [(bcell HB.out).1 _ _ hgw]; exact hc j hlt 2 (by omega)
      have HBA : Hid (∀ o, Below w.heap.size w (wr.alloc o)) := fun o => HB.out.alloc HB.out.size _
      clear hc KH
      generalize hsm : pr (atG L j) = sm at *
      have HSM : Hid (pr (atG L j) = sm) := hsm
      clear hsm
      have HKK : Hid (∀ i', i' < j → pr (atG L i') = false) := HR.out
      generalize hyy : atG L j = y at *
      obtain ⟨tp', si', un'⟩ := y
      dsimp only at *
      go_wp2_with fail
      refine (HS0.out _ (by first | exact HB.out | exact HBA.out _)).mono ?_
      rintro e w2 ⟨rfl, hb2⟩
      have B2 : Hid (Below w.heap.size w w2) := by first | exact HB.out.trans (hb2.mono HB.out.size) | exact (HBA.out _).trans (hb2.mono (HBA.out _).size)
      clear hb2
      cases sm with
      | true =>
        go_wp2
        go_ret
        exact ⟨.inl ⟨j, hlt, rfl, by rw [hyy]; exact HSM.out, HKK.out⟩, B2.out⟩
      | false =>
        have HN2 : Hid (∀ i', i' < j + 1 → pr (atG L i') = false) := HN1.out rfl
        go_wp2
        go_roundw
        case rel => exact ⟨j + 1, by omega, by go_num, B2, HN2⟩
        case measure => simp [intOf]; omega
    · go_wp2
      go_ret
      exact ⟨.inr ⟨rfl, fun i hi => HR.out i (by omega)⟩, HB.out⟩
set_option maxRecDepth 10000 in
set_option maxHeartbeats 8000000 in
theorem deleteOld_any (now : Int) (v : Value) (B : Nat) (L : List Gr) (w : World) (hs : SliceG w B v L) (hB : B ≤ w.heap.size) (hn : L.length ≤ 1000)
    (KP : ∀ (c : Gr) (W : World), Below B w W → Calls Try.prog 45 #[.int .i64 now, grV c] W fun e w' => e = .returned (.bool ((fun g => !(liveG now g)) c)) ∧ Below W.heap.size W w') :
    Calls Try.prog 41 #[v, .func (.func 45) #[.int .i64 now] #[]] w fun e w' => ∃ v', e = .returned v' ∧ SliceG w' B v' (L.filter (fun g => !((fun g => !(liveG now g)) g))) ∧ Below B w w' := by
  have HSg : Hid (SliceG w B v L) := hs
  obtain ⟨⟨q, cap, rfl, hg⟩, q2, cap2, e2, hcap, hqn⟩ := hs
  injection e2 with e3 _ e4
  subst e3 e4
  have KI : Hid (Calls Try.prog 73 #[.slice q L.length cap, .func (.func 45) #[.int .i64 now] #[]] w fun e w' => ((∃ k, k < L.length ∧ e = .returned (.int .i64 (k : Nat)) ∧ (fun g => !(liveG now g)) (atG L k) = true ∧ ∀ j, j < k → (fun g => !(liveG now g)) (atG L j) = false) ∨ (e = .returned (.int .i64 (-1)) ∧ ∀ j, j < L.length → (fun g => !(liveG now g)) (atG L j) = false)) ∧ Below w.heap.size w w') := indexOld_any now q cap B L w HSg.out (by omega) (fun c W h => KP c W (h.mono hB))
  have KH : Hid (∀ (c : Gr) (W : World), Below B w W → Calls Try.prog 45 #[.int .i64 now, grV c] W fun e w' => e = .returned (.bool ((fun g => !(liveG now g)) c)) ∧ Below W.heap.size W w') := KP
  have HGr : Hid (0 < L.length → ∃ g, q = some ⟨g, 0, none⟩ ∧ B ≤ g ∧ g < w.heap.size) := fun h0 => by
    obtain ⟨g, e, h1, h2, -⟩ := hg h0
    exact ⟨g, e, h1, h2⟩
  have HAll : Hid ((∀ j, j < L.length → (fun g => !(liveG now g)) (atG L j) = false) → L.filter (fun g => !((fun g => !(liveG now g)) g)) = L) := fun h => by
    refine List.filter_eq_self.2 fun x hx => ?_
    obtain ⟨j, hj, rfl⟩ := List.mem_iff_getElem.1 hx
    have := h j hj
    rw [atG_get hj] at this
    show (!_) = true
    rw [this]; rfl
  have HFil : Hid (keepG (fun g => !((fun g => !(liveG now g)) g)) L L.length = L.filter (fun g => !((fun g => !(liveG now g)) g))) := keepG_all _ L
  have HYs : Hid (∀ k, k < L.length → (fun g => !(liveG now g)) (atG L k) = false → keepG (fun g => !((fun g => !(liveG now g)) g)) L (k + 1) = keepG (fun g => !((fun g => !(liveG now g)) g)) L k ++ [atG L k]) := fun k hk h => keepG_yes hk (by show (!_) = true; rw [h]; rfl)
  have HNs : Hid (∀ k, k < L.length → (fun g => !(liveG now g)) (atG L k) = true → keepG (fun g => !((fun g => !(liveG now g)) g)) L (k + 1) = keepG (fun g => !((fun g => !(liveG now g)) g)) L k) := fun k hk h => keepG_no hk (by show (!_) = false; rw [h]; rfl)
  have HFirst : Hid (∀ k, k < L.length → (fun g => !(liveG now g)) (atG L k) = true → (∀ j, j < k → (fun g => !(liveG now g)) (atG L j) = false) → keepG (fun g => !((fun g => !(liveG now g)) g)) L (k + 1) = L.take k) := fun k hk h h2 => by
    rw [keepG_no hk (by show (!_) = false; rw [h]; rfl)]
    exact keep_same (by omega) (fun j hj => by show (!_) = true; rw [h2 j hj]; rfl)
  clear hg KP
  generalize L.filter (fun g => !((fun g => !(liveG now g)) g)) = Z at *
  generalize hpk : keepG (fun g => !((fun g => !(liveG now g)) g)) = kp at *
  clear hpk
  generalize hpp : (fun g => !(liveG now g)) = pr at *
  clear hpp
  go_enter Try.func41, Try.ntmps41
  go_wp2_with fail
  refine KI.out.mono ?_
  rintro e w1 ⟨⟨k, hk, rfl, hp, hbf⟩ | ⟨rfl, hp⟩, hb1⟩
  · obtain ⟨g, rfl, hBg, hgw⟩ := HGr.out (by omega)
    have hkeep : kp L (k + 1) = L.take k := HFirst.out k hk hp hbf
    have S1 : Hid (SliceR w1 B 3 (.slice (some ⟨g, 0, none⟩) L.length cap) L.length (fun j o => grC (atG L j) o)) := (HSg.out.1).below hb1
    have hgw1 : g < w1.heap.size := Nat.lt_of_lt_of_le hgw hb1.size
    have B1 : Hid (Below B w w1) := hb1.mono hB
    have HSt : Hid (∃ cur : Nat → Gr, SliceR w1 B 3 (.slice (some ⟨g, 0, none⟩) L.length cap) L.length (fun j o => grC (cur j) o) ∧ (∀ t, t < k → cur t = atG (kp L (k + 1)) t) ∧ ∀ t, k + 1 ≤ t → t < L.length → cur t = atG L t) := ⟨atG L, S1.out, fun t ht => by rw [hkeep, atG_take (by omega) ht], fun t _ _ => rfl⟩
    have hkl : (kp L (k + 1)).length = k := by rw [hkeep, List.length_take]; omega
    have qk : ((k : Int) == -1) = false := beq_eq_false_iff_ne.2 (by omega)
    clear hb1 hp hbf KI HSg S1 HFirst HAll HGr hkeep
    go_wp2
    go_loopw [5, 6] (fun i j wr => ∃ ii jj : Nat, i = .int .i64 ii ∧ j = .int .i64 jj ∧ ii < jj ∧ jj ≤ L.length ∧ (kp L jj).length = ii ∧ g < wr.heap.size ∧ Hid (∃ cur : Nat → Gr, SliceR wr B 3 (.slice (some ⟨g, 0, none⟩) L.length cap) L.length (fun j o => grC (cur j) o) ∧ (∀ t, t < ii → cur t = atG (kp L jj) t) ∧ ∀ t, jj ≤ t → t < L.length → cur t = atG L t) ∧ Hid (Below B w wr)) (fun _ j _ => L.length - (intOf j).toNat)
    case atStart => exact ⟨k, k + 1, rfl, by first | rfl | go_num, by omega, by omega, hkl, hgw1, HSt, B1⟩
    case round =>
      obtain ⟨ii, jj, rfl, rfl, hij, hjl, hlen, hgr, HC, HB⟩ := hrel
      clear HSt B1 hkl hgw1 qk
      by_cases hlt : jj < L.length
      · obtain ⟨cur, hcs, hc1, hc2⟩ := HC.out
        have j0 : (0 : Int) ≤ jj := by omega
        have j1 : (jj : Int) < L.length := by omega
        have i0 : (0 : Int) ≤ ii := by omega
        have i1 : (ii : Int) < L.length := by omega
        have hcell : ∀ t, t < L.length → ∀ o, o < 3 → wr.cell? ⟨g, t * 3 + o, none⟩ = some (grC (cur t) o) ∧ wr.frozen? ⟨g, t * 3 + o, none⟩ = false := by
          obtain ⟨p', c', e', hh⟩ := hcs
          injection e' with e1'
          obtain ⟨g', e2', -, -, hc⟩ := hh (by omega)
          rw [e2'] at e1'
          injection e1' with e1'
          injection e1' with e1'
          subst e1'
          exact hc
        have hcj := hc2 jj (Nat.le_refl _) hlt
        have HCell : Hid (∀ t, t < L.length → ∀ o, o < 3 → wr.cell? ⟨g, t * 3 + o, none⟩ = some (grC (cur t) o) ∧ wr.frozen? ⟨g, t * 3 + o, none⟩ = false) := hcell
        have c0 : wr.cell? ⟨g, jj * 3, none⟩ = some (.string (atG L jj).tp) := by rw [← hcj]; exact (hcell jj hlt 0 (by omega)).1
        have c1 : wr.cell? ⟨g, jj * 3 + 1, none⟩ = some (.string (atG L jj).si) := by rw [← hcj]; exact (hcell jj hlt 1 (by omega)).1
        have c2 : wr.cell? ⟨g, jj * 3 + 2, none⟩ = some (.int .i64 (atG L jj).un) := by rw [← hcj]; exact (hcell jj hlt 2 (by omega)).1
        have HS0 : Hid (∀ W, Below B w W → Calls Try.prog 45 #[.int .i64 now, .agg #[.string (atG L jj).tp, .string (atG L jj).si, .int .i64 (atG L jj).un]] W fun e w' => e = .returned (.bool (pr (atG L jj))) ∧ Below W.heap.size W w') := fun W h => KH.out (atG L jj) W h
        have HBA : Hid (∀ o, Below wr.heap.size wr (wr.alloc o)) := fun o => (Below.refl _ _).alloc (Nat.le_refl _) _
        have HBW : Hid (∀ W, Below wr.heap.size wr W → Below B w W) := fun W h => HB.out.trans (h.mono (Nat.le_trans hB HB.out.size))
        have HCS : Hid (SliceR wr B 3 (.slice (some ⟨g, 0, none⟩) L.length cap) L.length (fun j o => grC (cur j) o)) := hcs
        have HC1 : Hid (∀ t, t < ii → cur t = atG (kp L jj) t) := hc1
        have HC2 : Hid (∀ t, jj ≤ t → t < L.length → cur t = atG L t) := hc2
        have HY1 : Hid (pr (atG L jj) = false → kp L (jj + 1) = kp L jj ++ [atG L jj]) := HYs.out jj hlt
        have HN1 : Hid (pr (atG L jj) = true → kp L (jj + 1) = kp L jj) := HNs.out jj hlt
        clear hcell hcs hc1 hc2 hcj HC KH HYs HNs
        generalize hsm : pr (atG L jj) = sm at *
        clear hsm
        generalize hyy : atG L jj = y at *
        obtain ⟨tp', si', un'⟩ := y
        dsimp only at *
        obtain ⟨W0, hW⟩ : ∃ W0, W0 = wr.alloc (.cells #[.string tp', .string si', .int .i64 un'] 64) := ⟨_, rfl⟩
        have hW0 : Hid (W0 = wr.alloc (.cells #[.string tp', .string si', .int .i64 un'] 64)) := hW
        have HBr : Hid (Below wr.heap.size wr W0) := by show Below _ _ _; rw [hW]; exact (Below.refl _ _).alloc (Nat.le_refl _) _
        have n0 : W0.cell? ⟨wr.heap.size, 0, none⟩ = some (.string tp') := by rw [hW]; simp
        have n1 : W0.cell? ⟨wr.heap.size, 1, none⟩ = some (.string si') := by rw [hW]; simp
        have n2 : W0.cell? ⟨wr.heap.size, 2, none⟩ = some (.int .i64 un') := by rw [hW]; simp
        have hbW : wr.heap.size < W0.heap.size := by rw [hW]; simp
        clear hW HBA
        go_upto_region 8 with fail
        rw [← hW0.out]
        clear hW0
        generalize hbb : wr.heap.size = bx at *
        go_wp2_with fail
        refine (HS0.out _ (HBW.out _ HBr.out)).mono ?_
        rintro e w2 ⟨rfl, hb2⟩
        have A2 : Hid (Below bx wr w2) := HBr.out.trans (hb2.mono (Nat.le_of_lt hbW))
        have x0 : w2.cell? ⟨bx, 0, none⟩ = some (.string tp') := ((bcell hb2).1 _ _ hbW).trans n0
        have x1 : w2.cell? ⟨bx, 1, none⟩ = some (.string si') := ((bcell hb2).1 _ _ hbW).trans n1
        have x2 : w2.cell? ⟨bx, 2, none⟩ = some (.int .i64 un') := ((bcell hb2).1 _ _ hbW).trans n2
        have B2 : Hid (Below B w w2) := HBW.out _ A2.out
        have hg2 : g < w2.heap.size := Nat.lt_of_lt_of_le (by rw [hbb]; exact hgr) A2.out.size
        have S2 : Hid (SliceR w2 B 3 (.slice (some ⟨g, 0, none⟩) L.length cap) L.length (fun j o => grC (cur j) o)) := SliceR.below HCS.out (by rw [hbb]; exact A2.out)
        cases sm with
        | true =>
          have hkp := HN1.out rfl
          have HC3 : Hid (∃ cur : Nat → Gr, SliceR w2 B 3 (.slice (some ⟨g, 0, none⟩) L.length cap) L.length (fun j o => grC (cur j) o) ∧ (∀ t, t < ii → cur t = atG (kp L (jj + 1)) t) ∧ ∀ t, jj + 1 ≤ t → t < L.length → cur t = atG L t) := ⟨cur, S2.out, fun t ht => by rw [hkp]; exact HC1.out t ht, fun t h1 h2 => HC2.out t (by omega) h2⟩
          have hlen2 : (kp L (jj + 1)).length = ii := by rw [hkp]; exact hlen
          clear hb2 hkp n0 n1 n2 x0 x1 x2
          go_wp2
          go_roundw
          case rel => exact ⟨ii, jj + 1, rfl, by go_num, by omega, by omega, hlen2, hg2, HC3, B2⟩
          case measure => simp [intOf]; omega
        | false =>
          have hkp := HY1.out rfl
          have hlen2 : (kp L (jj + 1)).length = ii + 1 := by rw [hkp, List.length_append, hlen]; rfl
          obtain ⟨f0, z0⟩ : w2.cell? ⟨g, ii * 3, none⟩ = some (.string (cur ii).tp) ∧ w2.frozen? ⟨g, ii * 3, none⟩ = false := ⟨(A2.out.cell (p := ⟨g, _, none⟩) hgr).trans (HCell.out ii (by omega) 0 (by omega)).1, (A2.out.frozen (p := ⟨g, _, none⟩) hgr).trans (HCell.out ii (by omega) 0 (by omega)).2⟩
          obtain ⟨f1, z1⟩ : w2.cell? ⟨g, ii * 3 + 1, none⟩ = some (.string (cur ii).si) ∧ w2.frozen? ⟨g, ii * 3 + 1, none⟩ = false := ⟨(A2.out.cell (p := ⟨g, _, none⟩) hgr).trans (HCell.out ii (by omega) 1 (by omega)).1, (A2.out.frozen (p := ⟨g, _, none⟩) hgr).trans (HCell.out ii (by omega) 1 (by omega)).2⟩
          obtain ⟨f2, z2⟩ : w2.cell? ⟨g, ii * 3 + 2, none⟩ = some (.int .i64 (cur ii).un) ∧ w2.frozen? ⟨g, ii * 3 + 2, none⟩ = false := ⟨(A2.out.cell (p := ⟨g, _, none⟩) hgr).trans (HCell.out ii (by omega) 2 (by omega)).1, (A2.out.frozen (p := ⟨g, _, none⟩) hgr).trans (HCell.out ii (by omega) 2 (by omega)).2⟩
          have HC3 : Hid (∃ cur : Nat → Gr, SliceR (((w2.setCell ⟨g, ii * 3, none⟩ (.string tp')).setCell ⟨g, ii * 3 + 1, none⟩ (.string si')).setCell ⟨g, ii * 3 + 2, none⟩ (.int .i64 un')) B 3 (.slice (some ⟨g, 0, none⟩) L.length cap) L.length (fun j o => grC (cur j) o) ∧ (∀ t, t < ii + 1 → cur t = atG (kp L (jj + 1)) t) ∧ ∀ t, jj + 1 ≤ t → t < L.length → cur t = atG L t) := by
            refine ⟨fun t => if t = ii then ⟨tp', si', un'⟩ else cur t, SliceR.congr (SliceR.putGr S2.out ii (by omega) ⟨tp', si', un'⟩) (fun j hj o ho => ?_), fun t ht => ?_, fun t h1 h2 => ?_⟩
            · by_cases e : j = ii
              · simp only [if_pos e]
              · simp only [if_neg e]
            · rw [hkp, atG_snoc, hlen]
              by_cases e : t = ii
              · simp only [if_pos e]; rw [if_neg (by omega)]
              · simp only [if_neg e]; rw [if_pos (by omega)]; exact HC1.out t (by omega)
            · simp only [if_neg (show ¬ t = ii by omega)]; exact HC2.out t (by omega) h2
          have B3 : Hid (Below B w (((w2.setCell ⟨g, ii * 3, none⟩ (.string tp')).setCell ⟨g, ii * 3 + 1, none⟩ (.string si')).setCell ⟨g, ii * 3 + 2, none⟩ (.int .i64 un'))) := ((B2.out.setCell hBg _).setCell hBg _).setCell hBg _
          have hg3 : g < (((w2.setCell ⟨g, ii * 3, none⟩ (.string tp')).setCell ⟨g, ii * 3 + 1, none⟩ (.string si')).setCell ⟨g, ii * 3 + 2, none⟩ (.int .i64 un')).heap.size := by simpa using hg2
          generalize (cur ii).tp = o0 at *
          generalize (cur ii).si = o1 at *
          generalize (cur ii).un = o2 at *
          clear hb2 hkp c0 c1 c2 HCell HCS n0 n1 n2
          go_wp2
          go_roundw
          case rel => exact ⟨ii + 1, jj + 1, by go_num, by go_num, by omega, by omega, hlen2, hg3, HC3, B3⟩
          case measure => simp [intOf]; omega
      · obtain rfl : jj = L.length := by omega
        obtain ⟨cur, hcs, hc1, -⟩ := HC.out
        have hcell : ∀ t, t < L.length → ∀ o, o < 3 → wr.cell? ⟨g, t * 3 + o, none⟩ = some (grC (cur t) o) ∧ wr.frozen? ⟨g, t * 3 + o, none⟩ = false := by
          obtain ⟨p', c', e', hh⟩ := hcs
          injection e' with e1'
          obtain ⟨g', e2', -, -, hc⟩ := hh (by omega)
          rw [e2'] at e1'
          injection e1' with e1'
          injection e1' with e1'
          subst e1'
          exact hc
        have hcl : ∀ ty, (Builtin.clear_ #[23] ty #[.slice (some ⟨g, ii * 3, none⟩) (L.length - ii) (cap - ii)]).run Try.prog wr = .ok (.tuple #[]) (wr.setCells g (ii * 3) (Builtin.zeroCells (Value.agg #[.string ⟨#[]⟩, .string ⟨#[]⟩, .int .i64 0]).cells (L.length - ii)).toList) := fun ty => by
          refine run_clear_cells wr _ 64 ty (.agg #[.string ⟨#[]⟩, .string ⟨#[]⟩, .int .i64 0]) Try.underlying23 (fun W => Try.zeroValue64 W) g (ii * 3) _ _ (by omega) ?_ ?_ ?_
          · intro v hv
            simp only [Builtin.zeroCells, Value.cells, Array.toList_map, List.mem_map] at hv
            obtain ⟨i, -, rfl⟩ := hv
            have hm : i % 3 = 0 ∨ i % 3 = 1 ∨ i % 3 = 2 := by omega
            rcases hm with e | e | e <;> simp [e, Value.oneCell']
          · intro j hj
            rw [zeroCells_len] at hj
            simp only [Value.cells] at hj
            have hj2 : j < (L.length - ii) * 3 := hj
            have := (hcell (ii + j / 3) (by omega) (j % 3) (Nat.mod_lt _ (by decide))).1
            rw [show ii * 3 + j = (ii + j / 3) * 3 + j % 3 by omega, this]; rfl
          · intro j hj
            rw [zeroCells_len] at hj
            simp only [Value.cells] at hj
            have hj2 : j < (L.length - ii) * 3 := hj
            have := (hcell (ii + j / 3) (by omega) (j % 3) (Nat.mod_lt _ (by decide))).2
            rw [show ii * 3 + j = (ii + j / 3) * 3 + j % 3 by omega, this]
        generalize (Builtin.zeroCells (Value.agg #[.string ⟨#[]⟩, .string ⟨#[]⟩, .int .i64 0]).cells (L.length - ii)).toList = zs at *
        have SF : Hid (SliceG (wr.setCells g (ii * 3) zs) B (.slice (some ⟨g, 0, none⟩) ii cap) Z) := by
          show SliceG _ _ _ _
          rw [← HFil.out]
          refine ⟨⟨_, _, by rw [hlen], fun _ => ⟨g, rfl, hBg, ?_, fun j hj o ho => ⟨?_, ?_⟩⟩⟩, _, _, by rw [hlen], by rw [hlen]; omega, fun h => by cases h⟩
          · exact Nat.lt_of_lt_of_le hgr (below_setCellsK (Nat.le_refl g) zs (ii * 3) wr).size
          · rw [World.cell?_setCells_out g zs (ii * 3) wr ⟨g, j * 3 + o, none⟩ (fun _ _ => .inl (by show j * 3 + o < ii * 3; rw [hlen] at hj; omega)), (hcell j (by omega) o ho).1, hc1 j (by omega)]
            rfl
          · rw [World.frozen?_setCells]; exact (hcell j (by rw [hlen] at hj; omega) o ho).2
        have BF : Hid (Below B w (wr.setCells g (ii * 3) zs)) := HB.out.trans (below_setCellsK hBg zs (ii * 3) wr)
        have i0 : (0 : Int) ≤ ii := by omega
        have i1 : (ii : Int) ≤ L.length := by omega
        have i2 : (ii : Int) ≤ cap := by omega
        have i3 : ¬ (ii = cap) := by omega
        clear hcell hcs hc1 HC HB
        go_wp2
        go_ret
        exact ⟨_, rfl, SF.out, BF.out⟩
  · have HZ : Hid (Z = L) := HAll.out hp
    have S1 : Hid (SliceG w1 B (.slice q L.length cap) L) := HSg.out.below hb1
    have B1 : Hid (Below B w w1) := hb1.mono hB
    clear hp hb1
    go_wp2
    go_ret
    exact ⟨_, rfl, by rw [HZ.out]; exact S1.out, B1.out⟩
set_option maxRecDepth 10000 in
set_option maxHeartbeats 4000000 in
theorem indexHas_any (tp si : ByteArray) (q : Option Addr) (cap B : Nat) (L : List Gr) (w : World) (hs : SliceG w B (.slice q L.length cap) L) (hn : L.length ≤ 1048576)
    (KP : ∀ (c : Gr) (W : World), Below w.heap.size w W → Calls Try.prog 44 #[leaveV tp si, grV c] W fun e w' => e = .returned (.bool ((isG tp si) c)) ∧ Below W.heap.size W w') :
    Calls Try.prog 73 #[.slice q L.length cap, .func (.func 44) #[leaveV tp si] #[]] w fun e w' => ((∃ k, k < L.length ∧ e = .returned (.int .i64 (k : Nat)) ∧ (isG tp si) (atG L k) = true ∧ ∀ j, j < k → (isG tp si) (atG L j) = false) ∨ (e = .returned (.int .i64 (-1)) ∧ ∀ j, j < L.length → (isG tp si) (atG L j) = false)) ∧ Below w.heap.size w w' := by
  obtain ⟨⟨q', cap', e1, hg⟩, -⟩ := hs
  injection e1 with e1 _ e3
  subst e1 e3
  have HG : Hid (0 < L.length → ∃ g, q = some ⟨g, 0, none⟩ ∧ g < w.heap.size ∧ ∀ j, j < L.length → ∀ o, o < 3 → w.cell? ⟨g, j * 3 + o, none⟩ = some (grC (atG L j) o)) := fun h0 => by
    obtain ⟨g, e, -, hgw, hc⟩ := hg h0
    exact ⟨g, e, hgw, fun j hj o ho => (hc j hj o ho).1⟩
  have KH : Hid (∀ (c : Gr) (W : World), Below w.heap.size w W → Calls Try.prog 44 #[leaveV tp si, grV c] W fun e w' => e = .returned (.bool ((isG tp si) c)) ∧ Below W.heap.size W w') := KP
  clear hg KP
  generalize hpp : (isG tp si) = pr at *
  clear hpp
  go_enter Try.func73, Try.ntmps73
  go_wp2
  go_loopw [8] (fun i wr => ∃ j : Nat, j ≤ L.length ∧ i = .int .i64 j ∧ Hid (Below w.heap.size w wr) ∧ Hid (∀ i', i' < j → pr (atG L i') = false)) (fun i _ => L.length - (intOf i).toNat)
  case atStart => exact ⟨0, Nat.zero_le _, rfl, Below.refl _ _, fun j hj => absurd hj (by omega)⟩
  case round =>
    obtain ⟨j, hj, rfl, HB, HR⟩ := hrel
    by_cases hlt : j < L.length
    · obtain ⟨g, rfl, hgw, hc⟩ := HG.out (by omega)
      have j0 : (0 : Int) ≤ j := by omega
      have j1 : (j : Int) < L.length := by omega
      have HN1 : Hid (pr (atG L j) = false → ∀ i', i' < j + 1 → pr (atG L i') = false) := fun e i' hi' => by
        by_cases e2 : i' = j
        · subst e2; exact e
        · exact HR.out i' (by omega)
      have HS0 : Hid (∀ W, Below w.heap.size w W → Calls Try.prog 44 #[leaveV tp si, .agg #[.string (atG L j).tp, .string (atG L j).si, .int .i64 (atG L j).un]] W fun e w' => e = .returned (.bool (pr (atG L j))) ∧ Below W.heap.size W w') := fun W h => KH.out (atG L j) W h
      have c0 : wr.cell? ⟨g, j * 3, none⟩ = some (.string (atG L j).tp) := by rw [(bcell HB.out).1 _ _ hgw]; exact hc j hlt 0 (by omega)
      have c1 : wr.cell? ⟨g, j * 3 + 1, none⟩ = some (.string (atG L j).si) := by rw [(bcell HB.out).1 _ _ hgw]; exact hc j hlt 1 (by omega)
      have c2 : wr.cell? ⟨g, j * 3 + 2, none⟩ = some (.int .i64 (atG L j).un) := by rw [(bcell HB.out).1 _ _ hgw]; exact hc j hlt 2 (by omega)
      have HBA : Hid (∀ o, Below w.heap.size w (wr.alloc o)) := fun o => HB.out.alloc HB.out.size _
      clear hc KH
      generalize hsm : pr (atG L j) = sm at *
      have HSM : Hid (pr (atG L j) = sm) := hsm
      clear hsm
      have HKK : Hid (∀ i', i' < j → pr (atG L i') = false) := HR.out
      generalize hyy : atG L j = y at *
      obtain ⟨tp', si', un'⟩ := y
      dsimp only at *
      generalize hlv : leaveV tp si = lv at *
      clear hlv
      go_wp2_with fail
      refine (HS0.out _ (by first | exact HB.out | exact HBA.out _)).mono ?_
      rintro e w2 ⟨rfl, hb2⟩
      have B2 : Hid (Below w.heap.size w w2) := by first | exact HB.out.trans (hb2.mono HB.out.size) | exact (HBA.out _).trans (hb2.mono (HBA.out _).size)
      clear hb2
      cases sm with
      | true =>
        go_wp2
        go_ret
        exact ⟨.inl ⟨j, hlt, rfl, by rw [hyy]; exact HSM.out, HKK.out⟩, B2.out⟩
      | false =>
        have HN2 : Hid (∀ i', i' < j + 1 → pr (atG L i') = false) := HN1.out rfl
        go_wp2
        go_roundw
        case rel => exact ⟨j + 1, by omega, by go_num, B2, HN2⟩
        case measure => simp [intOf]; omega
    · go_wp2
      go_ret
      exact ⟨.inr ⟨rfl, fun i hi => HR.out i (by omega)⟩, HB.out⟩
set_option maxRecDepth 10000 in
set_option maxHeartbeats 8000000 in
theorem deleteHas_any (tp si : ByteArray) (v : Value) (B : Nat) (L : List Gr) (w : World) (hs : SliceG w B v L) (hB : B ≤ w.heap.size) (hn : L.length ≤ 1000)
    (KP : ∀ (c : Gr) (W : World), Below B w W → Calls Try.prog 44 #[leaveV tp si, grV c] W fun e w' => e = .returned (.bool ((isG tp si) c)) ∧ Below W.heap.size W w') :
    Calls Try.prog 41 #[v, .func (.func 44) #[leaveV tp si] #[]] w fun e w' => ∃ v', e = .returned v' ∧ SliceG w' B v' (L.filter (fun g => !((isG tp si) g))) ∧ Below B w w' := by
  have HSg : Hid (SliceG w B v L) := hs
  obtain ⟨⟨q, cap, rfl, hg⟩, q2, cap2, e2, hcap, hqn⟩ := hs
  injection e2 with e3 _ e4
  subst e3 e4
  have KI : Hid (Calls Try.prog 73 #[.slice q L.length cap, .func (.func 44) #[leaveV tp si] #[]] w fun e w' => ((∃ k, k < L.length ∧ e = .returned (.int .i64 (k : Nat)) ∧ (isG tp si) (atG L k) = true ∧ ∀ j, j < k → (isG tp si) (atG L j) = false) ∨ (e = .returned (.int .i64 (-1)) ∧ ∀ j, j < L.length → (isG tp si) (atG L j) = false)) ∧ Below w.heap.size w w') := indexHas_any tp si q cap B L w HSg.out (by omega) (fun c W h => KP c W (h.mono hB))
  have KH : Hid (∀ (c : Gr) (W : World), Below B w W → Calls Try.prog 44 #[leaveV tp si, grV c] W fun e w' => e = .returned (.bool ((isG tp si) c)) ∧ Below W.heap.size W w') := KP
  have HGr : Hid (0 < L.length → ∃ g, q = some ⟨g, 0, none⟩ ∧ B ≤ g ∧ g < w.heap.size) := fun h0 => by
    obtain ⟨g, e, h1, h2, -⟩ := hg h0
    exact ⟨g, e, h1, h2⟩
  have HAll : Hid ((∀ j, j < L.length → (isG tp si) (atG L j) = false) → L.filter (fun g => !((isG tp si) g)) = L) := fun h => by
    refine List.filter_eq_self.2 fun x hx => ?_
    obtain ⟨j, hj, rfl⟩ := List.mem_iff_getElem.1 hx
    have := h j hj
    rw [atG_get hj] at this
    show (!_) = true
    rw [this]; rfl
  have HFil : Hid (keepG (fun g => !((isG tp si) g)) L L.length = L.filter (fun g => !((isG tp si) g))) := keepG_all _ L
  have HYs : Hid (∀ k, k < L.length → (isG tp si) (atG L k) = false → keepG (fun g => !((isG tp si) g)) L (k + 1) = keepG (fun g => !((isG tp si) g)) L k ++ [atG L k]) := fun k hk h => keepG_yes hk (by show (!_) = true; rw [h]; rfl)
  have HNs : Hid (∀ k, k < L.length → (isG tp si) (atG L k) = true → keepG (fun g => !((isG tp si) g)) L (k + 1) = keepG (fun g => !((isG tp si) g)) L k) := fun k hk h => keepG_no hk (by show (!_) = false; rw [h]; rfl)
  have HFirst : Hid (∀ k, k < L.length → (isG tp si) (atG L k) = true → (∀ j, j < k → (isG tp si) (atG L j) = false) → keepG (fun g => !((isG tp si) g)) L (k + 1) = L.take k) := fun k hk h h2 => by
    rw [keepG_no hk (by show (!_) = false; rw [h]; rfl)]
    exact keep_same (by omega) (fun j hj => by show (!_) = true; rw [h2 j hj]; rfl)
  clear hg KP
  generalize hlv : leaveV tp si = lv at *
  clear hlv
  generalize L.filter (fun g => !((isG tp si) g)) = Z at *
  generalize hpk : keepG (fun g => !((isG tp si) g)) = kp at *
  clear hpk
  generalize hpp : (isG tp si) = pr at *
  clear hpp
  go_enter Try.func41, Try.ntmps41
  go_wp2_with fail
  refine KI.out.mono ?_
  rintro e w1 ⟨⟨k, hk, rfl, hp, hbf⟩ | ⟨rfl, hp⟩, hb1⟩
  · obtain ⟨g, rfl, hBg, hgw⟩ := HGr.out (by omega)
    have hkeep : kp L (k + 1) = L.take k := HFirst.out k hk hp hbf
    have S1 : Hid (SliceR w1 B 3 (.slice (some ⟨g, 0, none⟩) L.length cap) L.length (fun j o => grC (atG L j) o)) := (HSg.out.1).below hb1
    have hgw1 : g < w1.heap.size := Nat.lt_of_lt_of_le hgw hb1.size
    have B1 : Hid (Below B w w1) := hb1.mono hB
    have HSt : Hid (∃ cur : Nat → Gr, SliceR w1 B 3 (.slice (some ⟨g, 0, none⟩) L.length cap) L.length (fun j o => grC (cur j) o) ∧ (∀ t, t < k → cur t = atG (kp L (k + 1)) t) ∧ ∀ t, k + 1 ≤ t → t < L.length → cur t = atG L t) := ⟨atG L, S1.out, fun t ht => by rw [hkeep, atG_take (by omega) ht], fun t _ _ => rfl⟩
    have hkl : (kp L (k + 1)).length = k := by rw [hkeep, List.length_take]; omega
    have qk : ((k : Int) == -1) = false := beq_eq_false_iff_ne.2 (by omega)
    clear hb1 hp hbf KI HSg S1 HFirst HAll HGr hkeep
    go_wp2
    go_loopw [5, 6] (fun i j wr => ∃ ii jj : Nat, i = .int .i64 ii ∧ j = .int .i64 jj ∧ ii < jj ∧ jj ≤ L.length ∧ (kp L jj).length = ii ∧ g < wr.heap.size ∧ Hid (∃ cur : Nat → Gr, SliceR wr B 3 (.slice (some ⟨g, 0, none⟩) L.length cap) L.length (fun j o => grC (cur j) o) ∧ (∀ t, t < ii → cur t = atG (kp L jj) t) ∧ ∀ t, jj ≤ t → t < L.length → cur t = atG L t) ∧ Hid (Below B w wr)) (fun _ j _ => L.length - (intOf j).toNat)
    case atStart => exact ⟨k, k + 1, rfl, by first | rfl | go_num, by omega, by omega, hkl, hgw1, HSt, B1⟩
    case round =>
      obtain ⟨ii, jj, rfl, rfl, hij, hjl, hlen, hgr, HC, HB⟩ := hrel
      clear HSt B1 hkl hgw1 qk
      by_cases hlt : jj < L.length
      · obtain ⟨cur, hcs, hc1, hc2⟩ := HC.out
        have j0 : (0 : Int) ≤ jj := by omega
        have j1 : (jj : Int) < L.length := by omega
        have i0 : (0 : Int) ≤ ii := by omega
        have i1 : (ii : Int) < L.length := by omega
        have hcell : ∀ t, t < L.length → ∀ o, o < 3 → wr.cell? ⟨g, t * 3 + o, none⟩ = some (grC (cur t) o) ∧ wr.frozen? ⟨g, t * 3 + o, none⟩ = false := by
          obtain ⟨p', c', e', hh⟩ := hcs
          injection e' with e1'
          obtain ⟨g', e2', -, -, hc⟩ := hh (by omega)
          rw [e2'] at e1'
          injection e1' with e1'
          injection e1' with e1'
          subst e1'
          exact hc
        have hcj := hc2 jj (Nat.le_refl _) hlt
        have HCell : Hid (∀ t, t < L.length → ∀ o, o < 3 → wr.cell? ⟨g, t * 3 + o, none⟩ = some (grC (cur t) o) ∧ wr.frozen? ⟨g, t * 3 + o, none⟩ = false) := hcell
        have c0 : wr.cell? ⟨g, jj * 3, none⟩ = some (.string (atG L jj).tp) := by rw [← hcj]; exact (hcell jj hlt 0 (by omega)).1
        have c1 : wr.cell? ⟨g, jj * 3 + 1, none⟩ = some (.string (atG L jj).si) := by rw [← hcj]; exact (hcell jj hlt 1 (by omega)).1
        have c2 : wr.cell? ⟨g, jj * 3 + 2, none⟩ = some (.int .i64 (atG L jj).un) := by rw [← hcj]; exact (hcell jj hlt 2 (by omega)).1
        have HS0 : Hid (∀ W, Below B w W → Calls Try.prog 44 #[lv, .agg #[.string (atG L jj).tp, .string (atG L jj).si, .int .i64 (atG L jj).un]] W fun e w' => e = .returned (.bool (pr (atG L jj))) ∧ Below W.heap.size W w') := fun W h => KH.out (atG L jj) W h
        have HBA : Hid (∀ o, Below wr.heap.size wr (wr.alloc o)) := fun o => (Below.refl _ _).alloc (Nat.le_refl _) _
        have HBW : Hid (∀ W, Below wr.heap.size wr W → Below B w W) := fun W h => HB.out.trans (h.mono (Nat.le_trans hB HB.out.size))
        have HCS : Hid (SliceR wr B 3 (.slice (some ⟨g, 0, none⟩) L.length cap) L.length (fun j o => grC (cur j) o)) := hcs
        have HC1 : Hid (∀ t, t < ii → cur t = atG (kp L jj) t) := hc1
        have HC2 : Hid (∀ t, jj ≤ t → t < L.length → cur t = atG L t) := hc2
        have HY1 : Hid (pr (atG L jj) = false → kp L (jj + 1) = kp L jj ++ [atG L jj]) := HYs.out jj hlt
        have HN1 : Hid (pr (atG L jj) = true → kp L (jj + 1) = kp L jj) := HNs.out jj hlt
        clear hcell hcs hc1 hc2 hcj HC KH HYs HNs
        generalize hsm : pr (atG L jj) = sm at *
        clear hsm
        generalize hyy : atG L jj = y at *
        obtain ⟨tp', si', un'⟩ := y
        dsimp only at *
        obtain ⟨W0, hW⟩ : ∃ W0, W0 = wr.alloc (.cells #[.string tp', .string si', .int .i64 un'] 64) := ⟨_, rfl⟩
        have hW0 : Hid (W0 = wr.alloc (.cells #[.string tp', .string si', .int .i64 un'] 64)) := hW
        have HBr : Hid (Below wr.heap.size wr W0) := by show Below _ _ _; rw [hW]; exact (Below.refl _ _).alloc (Nat.le_refl _) _
        have n0 : W0.cell? ⟨wr.heap.size, 0, none⟩ = some (.string tp') := by rw [hW]; simp
        have n1 : W0.cell? ⟨wr.heap.size, 1, none⟩ = some (.string si') := by rw [hW]; simp
        have n2 : W0.cell? ⟨wr.heap.size, 2, none⟩ = some (.int .i64 un') := by rw [hW]; simp
        have hbW : wr.heap.size < W0.heap.size := by rw [hW]; simp
        clear hW HBA
        go_upto_region 8 with fail
        rw [← hW0.out]
        clear hW0
        generalize hbb : wr.heap.size = bx at *
        go_wp2_with fail
        refine (HS0.out _ (HBW.out _ HBr.out)).mono ?_
        rintro e w2 ⟨rfl, hb2⟩
        have A2 : Hid (Below bx wr w2) := HBr.out.trans (hb2.mono (Nat.le_of_lt hbW))
        have x0 : w2.cell? ⟨bx, 0, none⟩ = some (.string tp') := ((bcell hb2).1 _ _ hbW).trans n0
        have x1 : w2.cell? ⟨bx, 1, none⟩ = some (.string si') := ((bcell hb2).1 _ _ hbW).trans n1
        have x2 : w2.cell? ⟨bx, 2, none⟩ = some (.int .i64 un') := ((bcell hb2).1 _ _ hbW).trans n2
        have B2 : Hid (Below B w w2) := HBW.out _ A2.out
        have hg2 : g < w2.heap.size := Nat.lt_of_lt_of_le (by rw [hbb]; exact hgr) A2.out.size
        have S2 : Hid (SliceR w2 B 3 (.slice (some ⟨g, 0, none⟩) L.length cap) L.length (fun j o => grC (cur j) o)) := SliceR.below HCS.out (by rw [hbb]; exact A2.out)
        cases sm with
        | true =>
          have hkp := HN1.out rfl
          have HC3 : Hid (∃ cur : Nat → Gr, SliceR w2 B 3 (.slice (some ⟨g, 0, none⟩) L.length cap) L.length (fun j o => grC (cur j) o) ∧ (∀ t, t < ii → cur t = atG (kp L (jj + 1)) t) ∧ ∀ t, jj + 1 ≤ t → t < L.length → cur t = atG L t) := ⟨cur, S2.out, fun t ht => by rw [hkp]; exact HC1.out t ht, fun t h1 h2 => HC2.out t (by omega) h2⟩
          have hlen2 : (kp L (jj + 1)).length = ii := by rw [hkp]; exact hlen
          clear hb2 hkp n0 n1 n2 x0 x1 x2
          go_wp2
          go_roundw
          case rel => exact ⟨ii, jj + 1, rfl, by go_num, by omega, by omega, hlen2, hg2, HC3, B2⟩
          case measure => simp [intOf]; omega
        | false =>
          have hkp := HY1.out rfl
          have hlen2 : (kp L (jj + 1)).length = ii + 1 := by rw [hkp, List.length_append, hlen]; rfl
          obtain ⟨f0, z0⟩ : w2.cell? ⟨g, ii * 3, none⟩ = some (.string (cur ii).tp) ∧ w2.frozen? ⟨g, ii * 3, none⟩ = false := ⟨(A2.out.cell (p := ⟨g, _, none⟩) hgr).trans (HCell.out ii (by omega) 0 (by omega)).1, (A2.out.frozen (p := ⟨g, _, none⟩) hgr).trans (HCell.out ii (by omega) 0 (by omega)).2⟩
          obtain ⟨f1, z1⟩ : w2.cell? ⟨g, ii * 3 + 1, none⟩ = some (.string (cur ii).si) ∧ w2.frozen? ⟨g, ii * 3 + 1, none⟩ = false := ⟨(A2.out.cell (p := ⟨g, _, none⟩) hgr).trans (HCell.out ii (by omega) 1 (by omega)).1, (A2.out.frozen (p := ⟨g, _, none⟩) hgr).trans (HCell.out ii (by omega) 1 (by omega)).2⟩
          obtain ⟨f2, z2⟩ : w2.cell? ⟨g, ii * 3 + 2, none⟩ = some (.int .i64 (cur ii).un) ∧ w2.frozen? ⟨g, ii * 3 + 2, none⟩ = false := ⟨(A2.out.cell (p := ⟨g, _, none⟩) hgr).trans (HCell.out ii (by omega) 2 (by omega)).1, (A2.out.frozen (p := ⟨g, _, none⟩) hgr).trans (HCell.out ii (by omega) 2 (by omega)).2⟩
          have HC3 : Hid (∃ cur : Nat → Gr, SliceR (((w2.setCell ⟨g, ii * 3, none⟩ (.string tp')).setCell ⟨g, ii * 3 + 1, none⟩ (.string si')).setCell ⟨g, ii * 3 + 2, none⟩ (.int .i64 un')) B 3 (.slice (some ⟨g, 0, none⟩) L.length cap) L.length (fun j o => grC (cur j) o) ∧ (∀ t, t < ii + 1 → cur t = atG (kp L (jj + 1)) t) ∧ ∀ t, jj + 1 ≤ t → t < L.length → cur t = atG L t) := by
            refine ⟨fun t => if t = ii then ⟨tp', si', un'⟩ else cur t, SliceR.congr (SliceR.putGr S2.out ii (by omega) ⟨tp', si', un'⟩) (fun j hj o ho => ?_), fun t ht => ?_, fun t h1 h2 => ?_⟩
            · by_cases e : j = ii
              · simp only [if_pos e]
              · simp only [if_neg e]
            · rw [hkp, atG_snoc, hlen]
              by_cases e : t = ii
              · simp only [if_pos e]; rw [if_neg (by omega)]
              · simp only [if_neg e]; rw [if_pos (by omega)]; exact HC1.out t (by omega)
            · simp only [if_neg (show ¬ t = ii by omega)]; exact HC2.out t (by omega) h2
          have B3 : Hid (Below B w (((w2.setCell ⟨g, ii * 3, none⟩ (.string tp')).setCell ⟨g, ii * 3 + 1, none⟩ (.string si')).setCell ⟨g, ii * 3 + 2, none⟩ (.int .i64 un'))) := ((B2.out.setCell hBg _).setCell hBg _).setCell hBg _
          have hg3 : g < (((w2.setCell ⟨g, ii * 3, none⟩ (.string tp')).setCell ⟨g, ii * 3 + 1, none⟩ (.string si')).setCell ⟨g, ii * 3 + 2, none⟩ (.int .i64 un')).heap.size := by simpa using hg2
          generalize (cur ii).tp = o0 at *
          generalize (cur ii).si = o1 at *
          generalize (cur ii).un = o2 at *
          clear hb2 hkp c0 c1 c2 HCell HCS n0 n1 n2
          go_wp2
          go_roundw
          case rel => exact ⟨ii + 1, jj + 1, by go_num, by go_num, by omega, by omega, hlen2, hg3, HC3, B3⟩
          case measure => simp [intOf]; omega
      · obtain rfl : jj = L.length := by omega
        obtain ⟨cur, hcs, hc1, -⟩ := HC.out
        have hcell : ∀ t, t < L.length → ∀ o, o < 3 → wr.cell? ⟨g, t * 3 + o, none⟩ = some (grC (cur t) o) ∧ wr.frozen? ⟨g, t * 3 + o, none⟩ = false := by
          obtain ⟨p', c', e', hh⟩ := hcs
          injection e' with e1'
          obtain ⟨g', e2', -, -, hc⟩ := hh (by omega)
          rw [e2'] at e1'
          injection e1' with e1'
          injection e1' with e1'
          subst e1'
          exact hc
        have hcl : ∀ ty, (Builtin.clear_ #[23] ty #[.slice (some ⟨g, ii * 3, none⟩) (L.length - ii) (cap - ii)]).run Try.prog wr = .ok (.tuple #[]) (wr.setCells g (ii * 3) (Builtin.zeroCells (Value.agg #[.string ⟨#[]⟩, .string ⟨#[]⟩, .int .i64 0]).cells (L.length - ii)).toList) := fun ty => by
          refine run_clear_cells wr _ 64 ty (.agg #[.string ⟨#[]⟩, .string ⟨#[]⟩, .int .i64 0]) Try.underlying23 (fun W => Try.zeroValue64 W) g (ii * 3) _ _ (by omega) ?_ ?_ ?_
          · intro v hv
            simp only [Builtin.zeroCells, Value.cells, Array.toList_map, List.mem_map] at hv
            obtain ⟨i, -, rfl⟩ := hv
            have hm : i % 3 = 0 ∨ i % 3 = 1 ∨ i % 3 = 2 := by omega
            rcases hm with e | e | e <;> simp [e, Value.oneCell']
          · intro j hj
            rw [zeroCells_len] at hj
            simp only [Value.cells] at hj
            have hj2 : j < (L.length - ii) * 3 := hj
            have := (hcell (ii + j / 3) (by omega) (j % 3) (Nat.mod_lt _ (by decide))).1
            rw [show ii * 3 + j = (ii + j / 3) * 3 + j % 3 by omega, this]; rfl
          · intro j hj
            rw [zeroCells_len] at hj
            simp only [Value.cells] at hj
            have hj2 : j < (L.length - ii) * 3 := hj
            have := (hcell (ii + j / 3) (by omega) (j % 3) (Nat.mod_lt _ (by decide))).2
            rw [show ii * 3 + j = (ii + j / 3) * 3 + j % 3 by omega, this]
        generalize (Builtin.zeroCells (Value.agg #[.string ⟨#[]⟩, .string ⟨#[]⟩, .int .i64 0]).cells (L.length - ii)).toList = zs at *
        have SF : Hid (SliceG (wr.setCells g (ii * 3) zs) B (.slice (some ⟨g, 0, none⟩) ii cap) Z) := by
          show SliceG _ _ _ _
          rw [← HFil.out]
          refine ⟨⟨_, _, by rw [hlen], fun _ => ⟨g, rfl, hBg, ?_, fun j hj o ho => ⟨?_, ?_⟩⟩⟩, _, _, by rw [hlen], by rw [hlen]; omega, fun h => by cases h⟩
          · exact Nat.lt_of_lt_of_le hgr (below_setCellsK (Nat.le_refl g) zs (ii * 3) wr).size
          · rw [World.cell?_setCells_out g zs (ii * 3) wr ⟨g, j * 3 + o, none⟩ (fun _ _ => .inl (by show j * 3 + o < ii * 3; rw [hlen] at hj; omega)), (hcell j (by omega) o ho).1, hc1 j (by omega)]
            rfl
          · rw [World.frozen?_setCells]; exact (hcell j (by rw [hlen] at hj; omega) o ho).2
        have BF : Hid (Below B w (wr.setCells g (ii * 3) zs)) := HB.out.trans (below_setCellsK hBg zs (ii * 3) wr)
        have i0 : (0 : Int) ≤ ii := by omega
        have i1 : (ii : Int) ≤ L.length := by omega
        have i2 : (ii : Int) ≤ cap := by omega
        have i3 : ¬ (ii = cap) := by omega
        clear hcell hcs hc1 HC HB
        go_wp2
        go_ret
        exact ⟨_, rfl, SF.out, BF.out⟩
  · have HZ : Hid (Z = L) := HAll.out hp
    have S1 : Hid (SliceG w1 B (.slice q L.length cap) L) := HSg.out.below hb1
    have B1 : Hid (Below B w w1) := hb1.mono hB
    clear hp hb1
    go_wp2
    go_ret
    exact ⟨_, rfl, by rw [HZ.out]; exact S1.out, B1.out⟩
set_option maxRecDepth 10000 in
set_option maxHeartbeats 4000000 in
theorem indexPut_any (b1 b2 : Nat) (p : Gr → Bool) (q : Option Addr) (cap B : Nat) (L : List Gr) (w : World) (hs : SliceG w B (.slice q L.length cap) L) (hn : L.length ≤ 1048576)
    (KP : ∀ (c : Gr) (W : World), Below w.heap.size w W → Calls Try.prog 43 #[grV c, .pointer (some ⟨b1, 0, none⟩), .pointer (some ⟨b2, 0, none⟩)] W fun e w' => e = .returned (.bool (p c)) ∧ Below W.heap.size W w') :
    Calls Try.prog 73 #[.slice q L.length cap, .func (.func 43) #[] #[.pointer (some ⟨b1, 0, none⟩), .pointer (some ⟨b2, 0, none⟩)]] w fun e w' => ((∃ k, k < L.length ∧ e = .returned (.int .i64 (k : Nat)) ∧ p (atG L k) = true ∧ ∀ j, j < k → p (atG L j) = false) ∨ (e = .returned (.int .i64 (-1)) ∧ ∀ j, j < L.length → p (atG L j) = false)) ∧ Below w.heap.size w w' := by
  obtain ⟨⟨q', cap', e1, hg⟩, -⟩ := hs
  injection e1 with e1 _ e3
  subst e1 e3
  have HG : Hid (0 < L.length → ∃ g, q = some ⟨g, 0, none⟩ ∧ g < w.heap.size ∧ ∀ j, j < L.length → ∀ o, o < 3 → w.cell? ⟨g, j * 3 + o, none⟩ = some (grC (atG L j) o)) := fun h0 => by
    obtain ⟨g, e, -, hgw, hc⟩ := hg h0
    exact ⟨g, e, hgw, fun j hj o ho => (hc j hj o ho).1⟩
  have KH : Hid (∀ (c : Gr) (W : World), Below w.heap.size w W → Calls Try.prog 43 #[grV c, .pointer (some ⟨b1, 0, none⟩), .pointer (some ⟨b2, 0, none⟩)] W fun e w' => e = .returned (.bool (p c)) ∧ Below W.heap.size W w') := KP
  clear hg KP
  generalize hpp : p = pr at *
  clear hpp
  go_enter Try.func73, Try.ntmps73
  go_wp2
  go_loopw [8] (fun i wr => ∃ j : Nat, j ≤ L.length ∧ i = .int .i64 j ∧ Hid (Below w.heap.size w wr) ∧ Hid (∀ i', i' < j → pr (atG L i') = false)) (fun i _ => L.length - (intOf i).toNat)
  case atStart => exact ⟨0, Nat.zero_le _, rfl, Below.refl _ _, fun j hj => absurd hj (by omega)⟩
  case round =>
    obtain ⟨j, hj, rfl, HB, HR⟩ := hrel
    by_cases hlt : j < L.length
    · obtain ⟨g, rfl, hgw, hc⟩ := HG.out (by omega)
      have j0 : (0 : Int) ≤ j := by omega
      have j1 : (j : Int) < L.length := by omega
      have HN1 : Hid (pr (atG L j) = false → ∀ i', i' < j + 1 → pr (atG L i') = false) := fun e i' hi' => by
        by_cases e2 : i' = j
        · subst e2; exact e
        · exact HR.out i' (by omega)
      have HS0 : Hid (∀ W, Below w.heap.size w W → Calls Try.prog 43 #[.agg #[.string (atG L j).tp, .string (atG L j).si, .int .i64 (atG L j).un], .pointer (some ⟨b1, 0, none⟩), .pointer (some ⟨b2, 0, none⟩)] W fun e w' => e = .returned (.bool (pr (atG L j))) ∧ Below W.heap.size W w') := fun W h => KH.out (atG L j) W h
      have c0 : wr.cell? ⟨g, j * 3, none⟩ = some (.string (atG L j).tp) := by rw [(bcell HB.out).1 _ _ hgw]; exact hc j hlt 0 (by omega)
      have c1 : wr.cell? ⟨g, j * 3 + 1, none⟩ = some (.string (atG L j).si) := by rw [(bcell HB.out).1 _ _ hgw]; exact hc j hlt 1 (by omega)
      have c2 : wr.cell? ⟨g, j * 3 + 2, none⟩ = some (.int .i64 (atG L j).un) := by rw [(bcell HB.out).1 _ _ hgw]; exact hc j hlt 2 (by omega)
      have HBA : Hid (∀ o, Below w.heap.size w (wr.alloc o)) := fun o => HB.out.alloc HB.out.size _
      clear hc KH
      generalize hsm : pr (atG L j) = sm at *
      have HSM : Hid (pr (atG L j) = sm) := hsm
      clear hsm
      have HKK : Hid (∀ i', i' < j → pr (atG L i') = false) := HR.out
      generalize hyy : atG L j = y at *
      obtain ⟨tp', si', un'⟩ := y
      dsimp only at *
      go_wp2_with fail
      refine (HS0.out _ (by first | exact HB.out | exact HBA.out _)).mono ?_
      rintro e w2 ⟨rfl, hb2⟩
      have B2 : Hid (Below w.heap.size w w2) := by first | exact HB.out.trans (hb2.mono HB.out.size) | exact (HBA.out _).trans (hb2.mono (HBA.out _).size)
      clear hb2
      cases sm with
      | true =>
        go_wp2
        go_ret
        exact ⟨.inl ⟨j, hlt, rfl, by rw [hyy]; exact HSM.out, HKK.out⟩, B2.out⟩
      | false =>
        have HN2 : Hid (∀ i', i' < j + 1 → pr (atG L i') = false) := HN1.out rfl
        go_wp2
        go_roundw
        case rel => exact ⟨j + 1, by omega, by go_num, B2, HN2⟩
        case measure => simp [intOf]; omega
    · go_wp2
      go_ret
      exact ⟨.inr ⟨rfl, fun i hi => HR.out i (by omega)⟩, HB.out⟩
set_option maxRecDepth 10000 in
set_option maxHeartbeats 8000000 in
theorem deletePut_any (b1 b2 : Nat) (p : Gr → Bool) (v : Value) (B : Nat) (L : List Gr) (w : World) (hs : SliceG w B v L) (hB : B ≤ w.heap.size) (hn : L.length ≤ 1000)
    (KP : ∀ (c : Gr) (W : World), Below B w W → Calls Try.prog 43 #[grV c, .pointer (some ⟨b1, 0, none⟩), .pointer (some ⟨b2, 0, none⟩)] W fun e w' => e = .returned (.bool (p c)) ∧ Below W.heap.size W w') :
    Calls Try.prog 41 #[v, .func (.func 43) #[] #[.pointer (some ⟨b1, 0, none⟩), .pointer (some ⟨b2, 0, none⟩)]] w fun e w' => ∃ v', e = .returned v' ∧ (SliceG w' B v' (L.filter (fun g => !(p g))) ∧ (PlacedG v → PlacedG v')) ∧ Below B w w' := by
  have HSg : Hid (SliceG w B v L) := hs
  obtain ⟨⟨q, cap, rfl, hg⟩, q2, cap2, e2, hcap, hqn⟩ := hs
  injection e2 with e3 _ e4
  subst e3 e4
  have KI : Hid (Calls Try.prog 73 #[.slice q L.length cap, .func (.func 43) #[] #[.pointer (some ⟨b1, 0, none⟩), .pointer (some ⟨b2, 0, none⟩)]] w fun e w' => ((∃ k, k < L.length ∧ e = .returned (.int .i64 (k : Nat)) ∧ p (atG L k) = true ∧ ∀ j, j < k → p (atG L j) = false) ∨ (e = .returned (.int .i64 (-1)) ∧ ∀ j, j < L.length → p (atG L j) = false)) ∧ Below w.heap.size w w') := indexPut_any b1 b2 p q cap B L w HSg.out (by omega) (fun c W h => KP c W (h.mono hB))
  have KH : Hid (∀ (c : Gr) (W : World), Below B w W → Calls Try.prog 43 #[grV c, .pointer (some ⟨b1, 0, none⟩), .pointer (some ⟨b2, 0, none⟩)] W fun e w' => e = .returned (.bool (p c)) ∧ Below W.heap.size W w') := KP
  have HGr : Hid (0 < L.length → ∃ g, q = some ⟨g, 0, none⟩ ∧ B ≤ g ∧ g < w.heap.size) := fun h0 => by
    obtain ⟨g, e, h1, h2, -⟩ := hg h0
    exact ⟨g, e, h1, h2⟩
  have HAll : Hid ((∀ j, j < L.length → p (atG L j) = false) → L.filter (fun g => !(p g)) = L) := fun h => by
    refine List.filter_eq_self.2 fun x hx => ?_
    obtain ⟨j, hj, rfl⟩ := List.mem_iff_getElem.1 hx
    have := h j hj
    rw [atG_get hj] at this
    show (!_) = true
    rw [this]; rfl
  have HFil : Hid (keepG (fun g => !(p g)) L L.length = L.filter (fun g => !(p g))) := keepG_all _ L
  have HYs : Hid (∀ k, k < L.length → p (atG L k) = false → keepG (fun g => !(p g)) L (k + 1) = keepG (fun g => !(p g)) L k ++ [atG L k]) := fun k hk h => keepG_yes hk (by show (!_) = true; rw [h]; rfl)
  have HNs : Hid (∀ k, k < L.length → p (atG L k) = true → keepG (fun g => !(p g)) L (k + 1) = keepG (fun g => !(p g)) L k) := fun k hk h => keepG_no hk (by show (!_) = false; rw [h]; rfl)
  have HFirst : Hid (∀ k, k < L.length → p (atG L k) = true → (∀ j, j < k → p (atG L j) = false) → keepG (fun g => !(p g)) L (k + 1) = L.take k) := fun k hk h h2 => by
    rw [keepG_no hk (by show (!_) = false; rw [h]; rfl)]
    exact keep_same (by omega) (fun j hj => by show (!_) = true; rw [h2 j hj]; rfl)
  clear hg KP
  generalize L.filter (fun g => !(p g)) = Z at *
  generalize hpk : keepG (fun g => !(p g)) = kp at *
  clear hpk
  generalize hpp : p = pr at *
  clear hpp
  go_enter Try.func41, Try.ntmps41
  go_wp2_with fail
  refine KI.out.mono ?_
  rintro e w1 ⟨⟨k, hk, rfl, hp, hbf⟩ | ⟨rfl, hp⟩, hb1⟩
  · obtain ⟨g, rfl, hBg, hgw⟩ := HGr.out (by omega)
    have hkeep : kp L (k + 1) = L.take k := HFirst.out k hk hp hbf
    have S1 : Hid (SliceR w1 B 3 (.slice (some ⟨g, 0, none⟩) L.length cap) L.length (fun j o => grC (atG L j) o)) := (HSg.out.1).below hb1
    have hgw1 : g < w1.heap.size := Nat.lt_of_lt_of_le hgw hb1.size
    have B1 : Hid (Below B w w1) := hb1.mono hB
    have HSt : Hid (∃ cur : Nat → Gr, SliceR w1 B 3 (.slice (some ⟨g, 0, none⟩) L.length cap) L.length (fun j o => grC (cur j) o) ∧ (∀ t, t < k → cur t = atG (kp L (k + 1)) t) ∧ ∀ t, k + 1 ≤ t → t < L.length → cur t = atG L t) := ⟨atG L, S1.out, fun t ht => by rw [hkeep, atG_take (by omega) ht], fun t _ _ => rfl⟩
    have hkl : (kp L (k + 1)).length = k := by rw [hkeep, List.length_take]; omega
    have qk : ((k : Int) == -1) = false := beq_eq_false_iff_ne.2 (by omega)
    clear hb1 hp hbf KI HSg S1 HFirst HAll HGr hkeep
    go_wp2
    go_loopw [5, 6] (fun i j wr => ∃ ii jj : Nat, i = .int .i64 ii ∧ j = .int .i64 jj ∧ ii < jj ∧ jj ≤ L.length ∧ (kp L jj).length = ii ∧ g < wr.heap.size ∧ Hid (∃ cur : Nat → Gr, SliceR wr B 3 (.slice (some ⟨g, 0, none⟩) L.length cap) L.length (fun j o => grC (cur j) o) ∧ (∀ t, t < ii → cur t = atG (kp L jj) t) ∧ ∀ t, jj ≤ t → t < L.length → cur t = atG L t) ∧ Hid (Below B w wr)) (fun _ j _ => L.length - (intOf j).toNat)
    case atStart => exact ⟨k, k + 1, rfl, by first | rfl | go_num, by omega, by omega, hkl, hgw1, HSt, B1⟩
    case round =>
      obtain ⟨ii, jj, rfl, rfl, hij, hjl, hlen, hgr, HC, HB⟩ := hrel
      clear HSt B1 hkl hgw1 qk
      by_cases hlt : jj < L.length
      · obtain ⟨cur, hcs, hc1, hc2⟩ := HC.out
        have j0 : (0 : Int) ≤ jj := by omega
        have j1 : (jj : Int) < L.length := by omega
        have i0 : (0 : Int) ≤ ii := by omega
        have i1 : (ii : Int) < L.length := by omega
        have hcell : ∀ t, t < L.length → ∀ o, o < 3 → wr.cell? ⟨g, t * 3 + o, none⟩ = some (grC (cur t) o) ∧ wr.frozen? ⟨g, t * 3 + o, none⟩ = false := by
          obtain ⟨p', c', e', hh⟩ := hcs
          injection e' with e1'
          obtain ⟨g', e2', -, -, hc⟩ := hh (by omega)
          rw [e2'] at e1'
          injection e1' with e1'
          injection e1' with e1'
          subst e1'
          exact hc
        have hcj := hc2 jj (Nat.le_refl _) hlt
        have HCell : Hid (∀ t, t < L.length → ∀ o, o < 3 → wr.cell? ⟨g, t * 3 + o, none⟩ = some (grC (cur t) o) ∧ wr.frozen? ⟨g, t * 3 + o, none⟩ = false) := hcell
        have c0 : wr.cell? ⟨g, jj * 3, none⟩ = some (.string (atG L jj).tp) := by rw [← hcj]; exact (hcell jj hlt 0 (by omega)).1
        have c1 : wr.cell? ⟨g, jj * 3 + 1, none⟩ = some (.string (atG L jj).si) := by rw [← hcj]; exact (hcell jj hlt 1 (by omega)).1
        have c2 : wr.cell? ⟨g, jj * 3 + 2, none⟩ = some (.int .i64 (atG L jj).un) := by rw [← hcj]; exact (hcell jj hlt 2 (by omega)).1
        have HS0 : Hid (∀ W, Below B w W → Calls Try.prog 43 #[.agg #[.string (atG L jj).tp, .string (atG L jj).si, .int .i64 (atG L jj).un], .pointer (some ⟨b1, 0, none⟩), .pointer (some ⟨b2, 0, none⟩)] W fun e w' => e = .returned (.bool (pr (atG L jj))) ∧ Below W.heap.size W w') := fun W h => KH.out (atG L jj) W h
        have HBA : Hid (∀ o, Below wr.heap.size wr (wr.alloc o)) := fun o => (Below.refl _ _).alloc (Nat.le_refl _) _
        have HBW : Hid (∀ W, Below wr.heap.size wr W → Below B w W) := fun W h => HB.out.trans (h.mono (Nat.le_trans hB HB.out.size))
        have HCS : Hid (SliceR wr B 3 (.slice (some ⟨g, 0, none⟩) L.length cap) L.length (fun j o => grC (cur j) o)) := hcs
        have HC1 : Hid (∀ t, t < ii → cur t = atG (kp L jj) t) := hc1
        have HC2 : Hid (∀ t, jj ≤ t → t < L.length → cur t = atG L t) := hc2
        have HY1 : Hid (pr (atG L jj) = false → kp L (jj + 1) = kp L jj ++ [atG L jj]) := HYs.out jj hlt
        have HN1 : Hid (pr (atG L jj) = true → kp L (jj + 1) = kp L jj) := HNs.out jj hlt
        clear hcell hcs hc1 hc2 hcj HC KH HYs HNs
        generalize hsm : pr (atG L jj) = sm at *
        clear hsm
        generalize hyy : atG L jj = y at *
        obtain ⟨tp', si', un'⟩ := y
        dsimp only at *
        obtain ⟨W0, hW⟩ : ∃ W0, W0 = wr.alloc (.cells #[.string tp', .string si', .int .i64 un'] 64) := ⟨_, rfl⟩
        have hW0 : Hid (W0 = wr.alloc (.cells #[.string tp', .string si', .int .i64 un'] 64)) := hW
        have HBr : Hid (Below wr.heap.size wr W0) := by show Below _ _ _; rw [hW]; exact (Below.refl _ _).alloc (Nat.le_refl _) _
        have n0 : W0.cell? ⟨wr.heap.size, 0, none⟩ = some (.string tp') := by rw [hW]; simp
        have n1 : W0.cell? ⟨wr.heap.size, 1, none⟩ = some (.string si') := by rw [hW]; simp
        have n2 : W0.cell? ⟨wr.heap.size, 2, none⟩ = some (.int .i64 un') := by rw [hW]; simp
        have hbW : wr.heap.size < W0.heap.size := by rw [hW]; simp
        clear hW HBA
        go_upto_region 8 with fail
        rw [← hW0.out]
        clear hW0
        generalize hbb : wr.heap.size = bx at *
        go_wp2_with fail
        refine (HS0.out _ (HBW.out _ HBr.out)).mono ?_
        rintro e w2 ⟨rfl, hb2⟩
        have A2 : Hid (Below bx wr w2) := HBr.out.trans (hb2.mono (Nat.le_of_lt hbW))
        have x0 : w2.cell? ⟨bx, 0, none⟩ = some (.string tp') := ((bcell hb2).1 _ _ hbW).trans n0
        have x1 : w2.cell? ⟨bx, 1, none⟩ = some (.string si') := ((bcell hb2).1 _ _ hbW).trans n1
        have x2 : w2.cell? ⟨bx, 2, none⟩ = some (.int .i64 un') := ((bcell hb2).1 _ _ hbW).trans n2
        have B2 : Hid (Below B w w2) := HBW.out _ A2.out
        have hg2 : g < w2.heap.size := Nat.lt_of_lt_of_le (by rw [hbb]; exact hgr) A2.out.size
        have S2 : Hid (SliceR w2 B 3 (.slice (some ⟨g, 0, none⟩) L.length cap) L.length (fun j o => grC (cur j) o)) := SliceR.below HCS.out (by rw [hbb]; exact A2.out)
        cases sm with
        | true =>
          have hkp := HN1.out rfl
          have HC3 : Hid (∃ cur : Nat → Gr, SliceR w2 B 3 (.slice (some ⟨g, 0, none⟩) L.length cap) L.length (fun j o => grC (cur j) o) ∧ (∀ t, t < ii → cur t = atG (kp L (jj + 1)) t) ∧ ∀ t, jj + 1 ≤ t → t < L.length → cur t = atG L t) := ⟨cur, S2.out, fun t ht => by rw [hkp]; exact HC1.out t ht, fun t h1 h2 => HC2.out t (by omega) h2⟩
          have hlen2 : (kp L (jj + 1)).length = ii := by rw [hkp]; exact hlen
          clear hb2 hkp n0 n1 n2 x0 x1 x2
          go_wp2
          go_roundw
          case rel => exact ⟨ii, jj + 1, rfl, by go_num, by omega, by omega, hlen2, hg2, HC3, B2⟩
          case measure => simp [intOf]; omega
        | false =>
          have hkp := HY1.out rfl
          have hlen2 : (kp L (jj + 1)).length = ii + 1 := by rw [hkp, List.length_append, hlen]; rfl
          obtain ⟨f0, z0⟩ : w2.cell? ⟨g, ii * 3, none⟩ = some (.string (cur ii).tp) ∧ w2.frozen? ⟨g, ii * 3, none⟩ = false := ⟨(A2.out.cell (p := ⟨g, _, none⟩) hgr).trans (HCell.out ii (by omega) 0 (by omega)).1, (A2.out.frozen (p := ⟨g, _, none⟩) hgr).trans (HCell.out ii (by omega) 0 (by omega)).2⟩
          obtain ⟨f1, z1⟩ : w2.cell? ⟨g, ii * 3 + 1, none⟩ = some (.string (cur ii).si) ∧ w2.frozen? ⟨g, ii * 3 + 1, none⟩ = false := ⟨(A2.out.cell (p := ⟨g, _, none⟩) hgr).trans (HCell.out ii (by omega) 1 (by omega)).1, (A2.out.frozen (p := ⟨g, _, none⟩) hgr).trans (HCell.out ii (by omega) 1 (by omega)).2⟩
          obtain ⟨f2, z2⟩ : w2.cell? ⟨g, ii * 3 + 2, none⟩ = some (.int .i64 (cur ii).un) ∧ w2.frozen? ⟨g, ii * 3 + 2, none⟩ = false := ⟨(A2.out.cell (p := ⟨g, _, none⟩) hgr).trans (HCell.out ii (by omega) 2 (by omega)).1, (A2.out.frozen (p := ⟨g, _, none⟩) hgr).trans (HCell.out ii (by omega) 2 (by omega)).2⟩
          have HC3 : Hid (∃ cur : Nat → Gr, SliceR (((w2.setCell ⟨g, ii * 3, none⟩ (.string tp')).setCell ⟨g, ii * 3 + 1, none⟩ (.string si')).setCell ⟨g, ii * 3 + 2, none⟩ (.int .i64 un')) B 3 (.slice (some ⟨g, 0, none⟩) L.length cap) L.length (fun j o => grC (cur j) o) ∧ (∀ t, t < ii + 1 → cur t = atG (kp L (jj + 1)) t) ∧ ∀ t, jj + 1 ≤ t → t < L.length → cur t = atG L t) := by
            refine ⟨fun t => if t = ii then ⟨tp', si', un'⟩ else cur t, SliceR.congr (SliceR.putGr S2.out ii (by omega) ⟨tp', si', un'⟩) (fun j hj o ho => ?_), fun t ht => ?_, fun t h1 h2 => ?_⟩
            · by_cases e : j = ii
              · simp only [if_pos e]
              · simp only [if_neg e]
            · rw [hkp, atG_snoc, hlen]
              by_cases e : t = ii
              · simp only [if_pos e]; rw [if_neg (by omega)]
              · simp only [if_neg e]; rw [if_pos (by omega)]; exact HC1.out t (by omega)
            · simp only [if_neg (show ¬ t = ii by omega)]; exact HC2.out t (by omega) h2
          have B3 : Hid (Below B w (((w2.setCell ⟨g, ii * 3, none⟩ (.string tp')).setCell ⟨g, ii * 3 + 1, none⟩ (.string si')).setCell ⟨g, ii * 3 + 2, none⟩ (.int .i64 un'))) := ((B2.out.setCell hBg _).setCell hBg _).setCell hBg _
          have hg3 : g < (((w2.setCell ⟨g, ii * 3, none⟩ (.string tp')).setCell ⟨g, ii * 3 + 1, none⟩ (.string si')).setCell ⟨g, ii * 3 + 2, none⟩ (.int .i64 un')).heap.size := by simpa using hg2
          generalize (cur ii).tp = o0 at *
          generalize (cur ii).si = o1 at *
          generalize (cur ii).un = o2 at *
          clear hb2 hkp c0 c1 c2 HCell HCS n0 n1 n2
          go_wp2
          go_roundw
          case rel => exact ⟨ii + 1, jj + 1, by go_num, by go_num, by omega, by omega, hlen2, hg3, HC3, B3⟩
          case measure => simp [intOf]; omega
      · obtain rfl : jj = L.length := by omega
        obtain ⟨cur, hcs, hc1, -⟩ := HC.out
        have hcell : ∀ t, t < L.length → ∀ o, o < 3 → wr.cell? ⟨g, t * 3 + o, none⟩ = some (grC (cur t) o) ∧ wr.frozen? ⟨g, t * 3 + o, none⟩ = false := by
          obtain ⟨p', c', e', hh⟩ := hcs
          injection e' with e1'
          obtain ⟨g', e2', -, -, hc⟩ := hh (by omega)
          rw [e2'] at e1'
          injection e1' with e1'
          injection e1' with e1'
          subst e1'
          exact hc
        have hcl : ∀ ty, (Builtin.clear_ #[23] ty #[.slice (some ⟨g, ii * 3, none⟩) (L.length - ii) (cap - ii)]).run Try.prog wr = .ok (.tuple #[]) (wr.setCells g (ii * 3) (Builtin.zeroCells (Value.agg #[.string ⟨#[]⟩, .string ⟨#[]⟩, .int .i64 0]).cells (L.length - ii)).toList) := fun ty => by
          refine run_clear_cells wr _ 64 ty (.agg #[.string ⟨#[]⟩, .string ⟨#[]⟩, .int .i64 0]) Try.underlying23 (fun W => Try.zeroValue64 W) g (ii * 3) _ _ (by omega) ?_ ?_ ?_
          · intro v hv
            simp only [Builtin.zeroCells, Value.cells, Array.toList_map, List.mem_map] at hv
            obtain ⟨i, -, rfl⟩ := hv
            have hm : i % 3 = 0 ∨ i % 3 = 1 ∨ i % 3 = 2 := by omega
            rcases hm with e | e | e <;> simp [e, Value.oneCell']
          · intro j hj
            rw [zeroCells_len] at hj
            simp only [Value.cells] at hj
            have hj2 : j < (L.length - ii) * 3 := hj
            have := (hcell (ii + j / 3) (by omega) (j % 3) (Nat.mod_lt _ (by decide))).1
            rw [show ii * 3 + j = (ii + j / 3) * 3 + j % 3 by omega, this]; rfl
          · intro j hj
            rw [zeroCells_len] at hj
            simp only [Value.cells] at hj
            have hj2 : j < (L.length - ii) * 3 := hj
            have := (hcell (ii + j / 3) (by omega) (j % 3) (Nat.mod_lt _ (by decide))).2
            rw [show ii * 3 + j = (ii + j / 3) * 3 + j % 3 by omega, this]
        generalize (Builtin.zeroCells (Value.agg #[.string ⟨#[]⟩, .string ⟨#[]⟩, .int .i64 0]).cells (L.length - ii)).toList = zs at *
        have SF : Hid (SliceG (wr.setCells g (ii * 3) zs) B (.slice (some ⟨g, 0, none⟩) ii cap) Z) := by
          show SliceG _ _ _ _
          rw [← HFil.out]
          refine ⟨⟨_, _, by rw [hlen], fun _ => ⟨g, rfl, hBg, ?_, fun j hj o ho => ⟨?_, ?_⟩⟩⟩, _, _, by rw [hlen], by rw [hlen]; omega, fun h => by cases h⟩
          · exact Nat.lt_of_lt_of_le hgr (below_setCellsK (Nat.le_refl g) zs (ii * 3) wr).size
          · rw [World.cell?_setCells_out g zs (ii * 3) wr ⟨g, j * 3 + o, none⟩ (fun _ _ => .inl (by show j * 3 + o < ii * 3; rw [hlen] at hj; omega)), (hcell j (by omega) o ho).1, hc1 j (by omega)]
            rfl
          · rw [World.frozen?_setCells]; exact (hcell j (by rw [hlen] at hj; omega) o ho).2
        have BF : Hid (Below B w (wr.setCells g (ii * 3) zs)) := HB.out.trans (below_setCellsK hBg zs (ii * 3) wr)
        have i0 : (0 : Int) ≤ ii := by omega
        have i1 : (ii : Int) ≤ L.length := by omega
        have i2 : (ii : Int) ≤ cap := by omega
        have i3 : ¬ (ii = cap) := by omega
        clear hcell hcs hc1 HC HB
        go_wp2
        go_ret
        exact ⟨_, rfl, ⟨SF.out, fun _ => .inr ⟨g, ii, cap, rfl, by omega⟩⟩, BF.out⟩
  · have HZ : Hid (Z = L) := HAll.out hp
    have S1 : Hid (SliceG w1 B (.slice q L.length cap) L) := HSg.out.below hb1
    have B1 : Hid (Below B w w1) := hb1.mono hB
    clear hp hb1
    go_wp2
    go_ret
    exact ⟨_, rfl, ⟨by rw [HZ.out]; exact S1.out, fun h => h⟩, B1.out⟩
set_option maxRecDepth 10000 in
set_option maxHeartbeats 4000000 in
theorem indexLive_any (b1 b2 : Nat) (p : Gr → Bool) (q : Option Addr) (cap B : Nat) (L : List Gr) (w : World) (hs : SliceG w B (.slice q L.length cap) L) (hn : L.length ≤ 1048576)
    (KP : ∀ (c : Gr) (W : World), Below w.heap.size w W → Calls Try.prog 87 #[grV c, .pointer (some ⟨b1, 0, none⟩), .pointer (some ⟨b2, 0, none⟩)] W fun e w' => e = .returned (.bool (p c)) ∧ Below W.heap.size W w') :
    Calls Try.prog 73 #[.slice q L.length cap, .func (.func 87) #[] #[.pointer (some ⟨b1, 0, none⟩), .pointer (some ⟨b2, 0, none⟩)]] w fun e w' => ((∃ k, k < L.length ∧ e = .returned (.int .i64 (k : Nat)) ∧ p (atG L k) = true ∧ ∀ j, j < k → p (atG L j) = false) ∨ (e = .returned (.int .i64 (-1)) ∧ ∀ j, j < L.length → p (atG L j) = false)) ∧ Below w.heap.size w w' := by
  obtain ⟨⟨q', cap', e1, hg⟩, -⟩ := hs
  injection e1 with e1 _ e3
  subst e1 e3
  have HG : Hid (0 < L.length → ∃ g, q = some ⟨g, 0, none⟩ ∧ g < w.heap.size ∧ ∀ j, j < L.length → ∀ o, o < 3 → w.cell? ⟨g, j * 3 + o, none⟩ = some (grC (atG L j) o)) := fun h0 => by
    obtain ⟨g, e, -, hgw, hc⟩ := hg h0
    exact ⟨g, e, hgw, fun j hj o ho => (hc j hj o ho).1⟩
  have KH : Hid (∀ (c : Gr) (W : World), Below w.heap.size w W → Calls Try.prog 87 #[grV c, .pointer (some ⟨b1, 0, none⟩), .pointer (some ⟨b2, 0, none⟩)] W fun e w' => e = .returned (.bool (p c)) ∧ Below W.heap.size W w') := KP
  clear hg KP
  generalize hpp : p = pr at *
  clear hpp
  go_enter Try.func73, Try.ntmps73
  go_wp2
  go_loopw [8] (fun i wr => ∃ j : Nat, j ≤ L.length ∧ i = .int .i64 j ∧ Hid (Below w.heap.size w wr) ∧ Hid (∀ i', i' < j → pr (atG L i') = false)) (fun i _ => L.length - (intOf i).toNat)
  case atStart => exact ⟨0, Nat.zero_le _, rfl, Below.refl _ _, fun j hj => absurd hj (by omega)⟩
  case round =>
    obtain ⟨j, hj, rfl, HB, HR⟩ := hrel
    by_cases hlt : j < L.length
    · obtain ⟨g, rfl, hgw, hc⟩ := HG.out (by omega)
      have j0 : (0 : Int) ≤ j := by omega
      have j1 : (j : Int) < L.length := by omega
      have HN1 : Hid (pr (atG L j) = false → ∀ i', i' < j + 1 → pr (atG L i') = false) := fun e i' hi' => by
        by_cases e2 : i' = j
        · subst e2; exact e
        · exact HR.out i' (by omega)
      have HS0 : Hid (∀ W, Below w.heap.size w W → Calls Try.prog 87 #[.agg #[.string (atG L j).tp, .string (atG L j).si, .int .i64 (atG L j).un], .pointer (some ⟨b1, 0, none⟩), .pointer (some ⟨b2, 0, none⟩)] W fun e w' => e = .returned (.bool (pr (atG L j))) ∧ Below W.heap.size W w') := fun W h => KH.out (atG L j) W h
      have c0 : wr.cell? ⟨g, j * 3, none⟩ = some (.string (atG L j).tp) := by rw [(bcell HB.out).1 _ _ hgw]; exact hc j hlt 0 (by omega)
      have c1 : wr.cell? ⟨g, j * 3 + 1, none⟩ = some (.string (atG L j).si) := by rw [(bcell HB.out).1 _ _ hgw]; exact hc j hlt 1 (by omega)
      have c2 : wr.cell? ⟨g, j * 3 + 2, none⟩ = some (.int .i64 (atG L j).un) := by rw [(bcell HB.out).1 _ _ hgw]; exact hc j hlt 2 (by omega)
      have HBA : Hid (∀ o, Below w.heap.size w (wr.alloc o)) := fun o => HB.out.alloc HB.out.size _
      clear hc KH
      generalize hsm : pr (atG L j) = sm at *
      have HSM : Hid (pr (atG L j) = sm) := hsm
      clear hsm
      have HKK : Hid (∀ i', i' < j → pr (atG L i') = false) := HR.out
      generalize hyy : atG L j = y at *
      obtain ⟨tp', si', un'⟩ := y
      dsimp only at *
      go_wp2_with fail
      refine (HS0.out _ (by first | exact HB.out | exact HBA.out _)).mono ?_
      rintro e w2 ⟨rfl, hb2⟩
      have B2 : Hid (Below w.heap.size w w2) := by first | exact HB.out.trans (hb2.mono HB.out.size) | exact (HBA.out _).trans (hb2.mono (HBA.out _).size)
      clear hb2
      cases sm with
      | true =>
        go_wp2
        go_ret
        exact ⟨.inl ⟨j, hlt, rfl, by rw [hyy]; exact HSM.out, HKK.out⟩, B2.out⟩
      | false =>
        have HN2 : Hid (∀ i', i' < j + 1 → pr (atG L i') = false) := HN1.out rfl
        go_wp2
        go_roundw
        case rel => exact ⟨j + 1, by omega, by go_num, B2, HN2⟩
        case measure => simp [intOf]; omega
    · go_wp2
      go_ret
      exact ⟨.inr ⟨rfl, fun i hi => HR.out i (by omega)⟩, HB.out⟩
set_option maxRecDepth 10000 in
set_option maxHeartbeats 4000000 in
theorem containsLive_any (b1 b2 : Nat) (p : Gr → Bool) (q : Option Addr) (cap B : Nat) (L : List Gr) (w : World) (hs : SliceG w B (.slice q L.length cap) L) (hn : L.length ≤ 1048576)
    (KP : ∀ (c : Gr) (W : World), Below w.heap.size w W → Calls Try.prog 87 #[grV c, .pointer (some ⟨b1, 0, none⟩), .pointer (some ⟨b2, 0, none⟩)] W fun e w' => e = .returned (.bool (p c)) ∧ Below W.heap.size W w') :
    Calls Try.prog 86 #[.slice q L.length cap, .func (.func 87) #[] #[.pointer (some ⟨b1, 0, none⟩), .pointer (some ⟨b2, 0, none⟩)]] w fun e w' => e = .returned (.bool (L.any p)) ∧ Below w.heap.size w w' := by
  have KI : Hid (Calls Try.prog 73 #[.slice q L.length cap, .func (.func 87) #[] #[.pointer (some ⟨b1, 0, none⟩), .pointer (some ⟨b2, 0, none⟩)]] w fun e w' => (∃ r : Int, e = .returned (.int .i64 r) ∧ decide (0 ≤ r) = L.any p) ∧ Below w.heap.size w w') := by
    refine (indexLive_any b1 b2 p q cap B L w hs hn KP).mono ?_
    rintro e w' ⟨⟨k, hk, rfl, hp, -⟩ | ⟨rfl, hp⟩, hb⟩
    · exact ⟨⟨_, rfl, by rw [any_yes hk hp, decide_eq_true_iff]; omega⟩, hb⟩
    · exact ⟨⟨_, rfl, by rw [any_no hp]; decide⟩, hb⟩
  generalize L.any p = R at *
  clear hs KP
  generalize L.length = n at *
  go_enter Try.func86, Try.ntmps86
  go_wp2_with fail
  refine KI.out.mono ?_
  rintro e w2 ⟨⟨r, rfl, hr⟩, hb2⟩
  have HQ : Hid (decide (0 ≤ r) = R) := hr
  clear hr
  go_wp2
  go_ret
  exact ⟨ret_bool HQ.out, hb2⟩
end Go.Proofs.Ytecaeolgheefmaa

/- The walks of the program's closures over grants, of mayAsk, liveIn, GrantLive. -/
namespace Go.Proofs.Ytecaeolgheefmaa
open Go.RowKit

set_option maxRecDepth 10000 in
set_option maxHeartbeats 2000000 in
theorem liveIn1_any (b1 b2 : Nat) (tp si : ByteArray) (now : Int) (c : Gr) (w : World) (z1 : b1 < w.heap.size) (z2 : b2 < w.heap.size) (h0 : w.cell? ⟨b1, 0, none⟩ = some (.string tp)) (h1 : w.cell? ⟨b1, 1, none⟩ = some (.string si)) (h2 : w.cell? ⟨b2, 0, none⟩ = some (.int .i64 now)) :
    Calls Try.prog 87 #[grV c, .pointer (some ⟨b1, 0, none⟩), .pointer (some ⟨b2, 0, none⟩)] w fun e w' => e = .returned (.bool (isG tp si c && liveG now c)) ∧ Below w.heap.size w w' := by
  have KH0 : ∀ W, Calls Try.prog 44 #[leaveV tp si, grV c] W fun e w' => e = .returned (.bool (isG tp si c)) ∧ Below W.heap.size W w' := fun W => hasG_any tp si c W
  have KO0 : ∀ W, Calls Try.prog 45 #[.int .i64 now, grV c] W fun e w' => e = .returned (.bool (!(liveG now c))) ∧ Below W.heap.size W w' := fun W => outlives_any now c W
  generalize isG tp si c = bi at *
  generalize liveG now c = bl at *
  obtain ⟨ke, na, va⟩ := c
  unfold grV leaveV at *
  dsimp only at *
  have KH : Hid (∀ W, Calls Try.prog 44 #[.agg #[.string tp, .string si], .agg #[.string ke, .string na, .int .i64 va]] W fun e w' => e = .returned (.bool bi) ∧ Below W.heap.size W w') := KH0
  have KO : Hid (∀ W, Calls Try.prog 45 #[.int .i64 now, .agg #[.string ke, .string na, .int .i64 va]] W fun e w' => e = .returned (.bool (!bl)) ∧ Below W.heap.size W w') := KO0
  clear KH0 KO0
  obtain ⟨W0, hW⟩ : ∃ W0, W0 = w.alloc (.cells #[.string ke, .string na, .int .i64 va] 64) := ⟨_, rfl⟩
  have hW0 : Hid (W0 = w.alloc (.cells #[.string ke, .string na, .int .i64 va] 64)) := hW
  have A0 : Below w.heap.size w W0 := by rw [hW]; exact (Below.refl _ _).alloc (Nat.le_refl _) _
  have B0 : Hid (Below w.heap.size w W0) := A0
  have g0 : W0.cell? ⟨w.heap.size, 0, none⟩ = some (.string ke) := by rw [hW]; simp
  have g1 : W0.cell? ⟨w.heap.size, 1, none⟩ = some (.string na) := by rw [hW]; simp
  have g2 : W0.cell? ⟨w.heap.size, 2, none⟩ = some (.int .i64 va) := by rw [hW]; simp
  have zw : w.heap.size < W0.heap.size := by rw [hW]; simp
  have k0 : W0.cell? ⟨b1, 0, none⟩ = some (.string tp) := ((bcell A0).1 _ _ z1).trans h0
  have k1 : W0.cell? ⟨b1, 1, none⟩ = some (.string si) := ((bcell A0).1 _ _ z1).trans h1
  have k2 : W0.cell? ⟨b2, 0, none⟩ = some (.int .i64 now) := ((bcell A0).1 _ _ z2).trans h2
  have z22 : b2 < W0.heap.size := Nat.lt_trans z2 zw
  clear hW A0 h0 h1 h2
  go_enter Try.func87, Try.ntmps87
  go_upto_region 1 with fail
  rw [← hW0.out]
  clear hW0
  generalize hbb : w.heap.size = b at *
  go_wp2_with fail
  refine (KH.out _).mono ?_
  rintro e w1 ⟨rfl, hb1⟩
  have x0 : w1.cell? ⟨b, 0, none⟩ = some (.string ke) := ((bcell hb1).1 _ _ zw).trans g0
  have x1 : w1.cell? ⟨b, 1, none⟩ = some (.string na) := ((bcell hb1).1 _ _ zw).trans g1
  have x2 : w1.cell? ⟨b, 2, none⟩ = some (.int .i64 va) := ((bcell hb1).1 _ _ zw).trans g2
  have x3 : w1.cell? ⟨b2, 0, none⟩ = some (.int .i64 now) := ((bcell hb1).1 _ _ z22).trans k2
  have B1 : Hid (Below b w w1) := B0.out.trans (hb1.mono (Nat.le_of_lt zw))
  have zw1 : b < w1.heap.size := Nat.lt_of_lt_of_le zw hb1.size
  clear hb1 g0 g1 g2 k0 k1 k2 KH B0
  cases bi with
  | false =>
    go_wp2
    go_ret
    exact ⟨rfl, by rw [hbb]; exact B1.out⟩
  | true =>
    go_wp2_with fail
    refine (KO.out _).mono ?_
    rintro e w2 ⟨rfl, hb2⟩
    have B2 : Hid (Below b w w2) := B1.out.trans (hb2.mono (Nat.le_of_lt zw1))
    clear hb2
    go_wp2
    go_ret
    exact ⟨ret_bool (by cases bl <;> rfl), by rw [hbb]; exact B2.out⟩
set_option maxRecDepth 10000 in
set_option maxHeartbeats 2000000 in
theorem put1_any (b1 b2 : Nat) (tp si : ByteArray) (now : Int) (c : Gr) (w : World) (z1 : b1 < w.heap.size) (z2 : b2 < w.heap.size) (h0 : w.cell? ⟨b1, 0, none⟩ = some (.string tp)) (h1 : w.cell? ⟨b1, 1, none⟩ = some (.string si)) (h2 : w.cell? ⟨b2, 0, none⟩ = some (.int .i64 now)) :
    Calls Try.prog 43 #[grV c, .pointer (some ⟨b1, 0, none⟩), .pointer (some ⟨b2, 0, none⟩)] w fun e w' => e = .returned (.bool (isG tp si c || !(liveG now c))) ∧ Below w.heap.size w w' := by
  have KH0 : ∀ W, Calls Try.prog 44 #[leaveV tp si, grV c] W fun e w' => e = .returned (.bool (isG tp si c)) ∧ Below W.heap.size W w' := fun W => hasG_any tp si c W
  have KO0 : ∀ W, Calls Try.prog 45 #[.int .i64 now, grV c] W fun e w' => e = .returned (.bool (!(liveG now c))) ∧ Below W.heap.size W w' := fun W => outlives_any now c W
  generalize isG tp si c = bi at *
  generalize liveG now c = bl at *
  obtain ⟨ke, na, va⟩ := c
  unfold grV leaveV at *
  dsimp only at *
  have KH : Hid (∀ W, Calls Try.prog 44 #[.agg #[.string tp, .string si], .agg #[.string ke, .string na, .int .i64 va]] W fun e w' => e = .returned (.bool bi) ∧ Below W.heap.size W w') := KH0
  have KO : Hid (∀ W, Calls Try.prog 45 #[.int .i64 now, .agg #[.string ke, .string na, .int .i64 va]] W fun e w' => e = .returned (.bool (!bl)) ∧ Below W.heap.size W w') := KO0
  clear KH0 KO0
  obtain ⟨W0, hW⟩ : ∃ W0, W0 = w.alloc (.cells #[.string ke, .string na, .int .i64 va] 64) := ⟨_, rfl⟩
  have hW0 : Hid (W0 = w.alloc (.cells #[.string ke, .string na, .int .i64 va] 64)) := hW
  have A0 : Below w.heap.size w W0 := by rw [hW]; exact (Below.refl _ _).alloc (Nat.le_refl _) _
  have B0 : Hid (Below w.heap.size w W0) := A0
  have g0 : W0.cell? ⟨w.heap.size, 0, none⟩ = some (.string ke) := by rw [hW]; simp
  have g1 : W0.cell? ⟨w.heap.size, 1, none⟩ = some (.string na) := by rw [hW]; simp
  have g2 : W0.cell? ⟨w.heap.size, 2, none⟩ = some (.int .i64 va) := by rw [hW]; simp
  have zw : w.heap.size < W0.heap.size := by rw [hW]; simp
  have k0 : W0.cell? ⟨b1, 0, none⟩ = some (.string tp) := ((bcell A0).1 _ _ z1).trans h0
  have k1 : W0.cell? ⟨b1, 1, none⟩ = some (.string si) := ((bcell A0).1 _ _ z1).trans h1
  have k2 : W0.cell? ⟨b2, 0, none⟩ = some (.int .i64 now) := ((bcell A0).1 _ _ z2).trans h2
  have z22 : b2 < W0.heap.size := Nat.lt_trans z2 zw
  clear hW A0 h0 h1 h2
  go_enter Try.func43, Try.ntmps43
  go_upto_region 1 with fail
  rw [← hW0.out]
  clear hW0
  generalize hbb : w.heap.size = b at *
  go_wp2_with fail
  refine (KH.out _).mono ?_
  rintro e w1 ⟨rfl, hb1⟩
  have x0 : w1.cell? ⟨b, 0, none⟩ = some (.string ke) := ((bcell hb1).1 _ _ zw).trans g0
  have x1 : w1.cell? ⟨b, 1, none⟩ = some (.string na) := ((bcell hb1).1 _ _ zw).trans g1
  have x2 : w1.cell? ⟨b, 2, none⟩ = some (.int .i64 va) := ((bcell hb1).1 _ _ zw).trans g2
  have x3 : w1.cell? ⟨b2, 0, none⟩ = some (.int .i64 now) := ((bcell hb1).1 _ _ z22).trans k2
  have B1 : Hid (Below b w w1) := B0.out.trans (hb1.mono (Nat.le_of_lt zw))
  have zw1 : b < w1.heap.size := Nat.lt_of_lt_of_le zw hb1.size
  clear hb1 g0 g1 g2 k0 k1 k2 KH B0
  cases bi with
  | true =>
    go_wp2
    go_ret
    exact ⟨rfl, by rw [hbb]; exact B1.out⟩
  | false =>
    go_wp2_with fail
    refine (KO.out _).mono ?_
    rintro e w2 ⟨rfl, hb2⟩
    have B2 : Hid (Below b w w2) := B1.out.trans (hb2.mono (Nat.le_of_lt zw1))
    clear hb2
    go_wp2
    go_ret
    exact ⟨ret_bool (by cases bl <;> rfl), by rw [hbb]; exact B2.out⟩
set_option maxRecDepth 10000 in
set_option maxHeartbeats 2000000 in
theorem mayAsk_any (v : Value) (L : List Gr) (tp si : ByteArray) (now : Int) (B : Nat) (w : World) (hs : SliceG w B v L) (hn : L.length ≤ 1048576) :
    Calls Try.prog 40 #[v, leaveV tp si, .int .i64 now] w fun e w' => e = .returned (.bool (mayG L tp si now)) ∧ Below w.heap.size w w' := by
  have KG : Hid (∀ W, Below w.heap.size w W → Calls Try.prog 26 #[v] W fun e w' => e = .returned (.bool (grantsB L)) ∧ Below W.heap.size W w') := fun W hb => grantsRight_any v L B W (hs.below hb) hn
  have KR0 : ∀ W, Calls Try.prog 56 #[leaveV tp si] W fun e w' => e = .returned (.bool (siteG tp && siteG si)) ∧ Below W.heap.size W w' := fun W => leaveRight_any tp si W
  have KT : Hid (∀ W, Calls Try.prog 63 #[.int .i64 now] W fun e w' => e = .returned (.bool (timeG now)) ∧ w' = W) := fun W => isTimeG_any now W
  have HM : Hid (mayG L tp si now = (grantsB L && (siteG tp && siteG si) && timeG now)) := by show _ = _; unfold mayG; rw [Bool.and_assoc (grantsB L)]
  clear hs
  generalize mayG L tp si now = R at *
  generalize grantsB L = r1 at *
  generalize (siteG tp && siteG si) = r2 at *
  generalize timeG now = r3 at *
  unfold leaveV at *
  have KR : Hid (∀ W, Calls Try.prog 56 #[.agg #[.string tp, .string si]] W fun e w' => e = .returned (.bool r2) ∧ Below W.heap.size W w') := KR0
  clear KR0
  obtain ⟨W0, hW⟩ : ∃ W0, W0 = w.alloc (.cells #[.string tp, .string si] 60) := ⟨_, rfl⟩
  have hW0 : Hid (W0 = w.alloc (.cells #[.string tp, .string si] 60)) := hW
  have B0 : Hid (Below w.heap.size w W0) := by show Below _ _ _; rw [hW]; exact (Below.refl _ _).alloc (Nat.le_refl _) _
  have g0 : W0.cell? ⟨w.heap.size, 0, none⟩ = some (.string tp) := by rw [hW]; simp
  have g1 : W0.cell? ⟨w.heap.size, 1, none⟩ = some (.string si) := by rw [hW]; simp
  have zw : w.heap.size < W0.heap.size := by rw [hW]; simp
  clear hW
  go_enter Try.func40, Try.ntmps40
  go_upto_region 1 with fail
  rw [← hW0.out]
  clear hW0
  generalize hbb : w.heap.size = b at *
  go_wp2_with fail
  refine (KG.out _ B0.out).mono ?_
  rintro e w1 ⟨rfl, hb1⟩
  have x0 : w1.cell? ⟨b, 0, none⟩ = some (.string tp) := ((bcell hb1).1 _ _ zw).trans g0
  have x1 : w1.cell? ⟨b, 1, none⟩ = some (.string si) := ((bcell hb1).1 _ _ zw).trans g1
  have B1 : Hid (Below b w w1) := B0.out.trans (hb1.mono (Nat.le_of_lt zw))
  have zw1 : b < w1.heap.size := Nat.lt_of_lt_of_le zw hb1.size
  clear hb1 g0 g1 KG B0
  cases r1 with
  | false =>
    go_wp2
    go_ret
    exact ⟨ret_bool HM.out.symm, by rw [hbb]; exact B1.out⟩
  | true =>
    go_wp2_with fail
    refine (KR.out _).mono ?_
    rintro e w2 ⟨rfl, hb2⟩
    have B2 : Hid (Below b w w2) := B1.out.trans (hb2.mono (Nat.le_of_lt zw1))
    clear hb2
    cases r2 with
    | false =>
      go_wp2
      go_ret
      exact ⟨ret_bool HM.out.symm, by rw [hbb]; exact B2.out⟩
    | true =>
      go_wp2_with fail
      refine (KT.out _).mono ?_
      rintro e w3 ⟨rfl, rfl⟩
      go_wp2
      go_ret
      exact ⟨ret_bool HM.out.symm, by rw [hbb]; exact B2.out⟩
set_option maxRecDepth 10000 in
set_option maxHeartbeats 2000000 in
theorem liveIn_any (v : Value) (L : List Gr) (tp si : ByteArray) (now : Int) (B : Nat) (w : World) (hs : SliceG w B v L) (hn : L.length ≤ 1048576) :
    Calls Try.prog 65 #[leaveV tp si, v, .int .i64 now] w fun e w' => e = .returned (.bool (hereG L tp si now)) ∧ Below w.heap.size w w' := by
  have HH : Hid (hereG L tp si now = L.any (fun g => isG tp si g && liveG now g)) := rfl
  obtain ⟨W0, hW⟩ : ∃ W0, W0 = (w.alloc (.cells #[.string tp, .string si] 60)).alloc (.cells #[.int .i64 now] 67) := ⟨_, rfl⟩
  have hW0 : Hid (W0 = (w.alloc (.cells #[.string tp, .string si] 60)).alloc (.cells #[.int .i64 now] 67)) := hW
  have A0 : Below w.heap.size w W0 := by rw [hW]; exact ((Below.refl _ _).alloc (Nat.le_refl _) _).alloc (by simp) _
  have B0 : Hid (Below w.heap.size w W0) := A0
  have g0 : W0.cell? ⟨w.heap.size, 0, none⟩ = some (.string tp) := by rw [hW]; simp
  have g1 : W0.cell? ⟨w.heap.size, 1, none⟩ = some (.string si) := by rw [hW]; simp
  have g2 : W0.cell? ⟨w.heap.size + 1, 0, none⟩ = some (.int .i64 now) := by rw [hW]; exact (World.cell?_alloc_at _ _ _ _ (by simp)).trans rfl
  have z1 : w.heap.size < W0.heap.size := by rw [hW]; simp; omega
  have z2 : w.heap.size + 1 < W0.heap.size := by rw [hW]; simp
  obtain ⟨⟨q, cap, hv, hg⟩, hrest⟩ := id hs
  subst hv
  have KC : Hid (Calls Try.prog 86 #[.slice q L.length cap, .func (.func 87) #[] #[.pointer (some ⟨w.heap.size, 0, none⟩), .pointer (some ⟨w.heap.size + 1, 0, none⟩)]] W0 fun e w' => e = .returned (.bool (L.any (fun g => isG tp si g && liveG now g))) ∧ Below W0.heap.size W0 w') :=
    containsLive_any w.heap.size (w.heap.size + 1) (fun g => isG tp si g && liveG now g) q cap B L W0 (hs.below A0) hn (fun c W hb => liveIn1_any _ _ tp si now c W (Nat.lt_of_lt_of_le z1 hb.size) (Nat.lt_of_lt_of_le z2 hb.size) (((bcell hb).1 _ _ z1).trans g0) (((bcell hb).1 _ _ z1).trans g1) (((bcell hb).1 _ _ z2).trans g2))
  have hmf : ∀ (fn : Fn) (first cap : Array Value) (w : World), (Instr.makeFunc fn first cap).run Try.prog w = .ok (.func fn first cap) w := fun _ _ _ _ => rfl
  clear hW A0 hg hrest hs
  generalize hereG L tp si now = R at *
  generalize L.any (fun g => isG tp si g && liveG now g) = Y at *
  generalize L.length = n at *
  unfold leaveV
  go_enter Try.func65, Try.ntmps65
  go_upto_region 1 with fail
  rw [← hW0.out]
  clear hW0
  generalize hbb : w.heap.size = b at *
  go_wp2_with fail
  refine KC.out.mono ?_
  rintro e w2 ⟨rfl, hb2⟩
  have B2 : Hid (Below b w w2) := B0.out.trans (hb2.mono (Nat.le_of_lt z1))
  clear hb2
  go_wp2
  go_ret
  exact ⟨ret_bool HH.out.symm, by rw [hbb]; exact B2.out⟩
set_option maxRecDepth 10000 in
set_option maxHeartbeats 2000000 in
theorem grantLive_any (v : Value) (L : List Gr) (tp si : ByteArray) (now : Int) (B : Nat) (w : World) (hs : SliceG w B v L) (hn : L.length ≤ 1048576) :
    Calls Try.prog 24 #[v, .string tp, .string si, .int .i64 now] w fun e w' => e = .returned (.bool (liveB8 L tp si now)) ∧ Below w.heap.size w w' := by
  have KM0 : ∀ W, Below w.heap.size w W → Calls Try.prog 40 #[v, leaveV tp si, .int .i64 now] W fun e w' => e = .returned (.bool (mayG L tp si now)) ∧ Below W.heap.size W w' := fun W hb => mayAsk_any v L tp si now B W (hs.below hb) hn
  have KI0 : ∀ W, Below w.heap.size w W → Calls Try.prog 65 #[leaveV tp si, v, .int .i64 now] W fun e w' => e = .returned (.bool (hereG L tp si now)) ∧ Below W.heap.size W w' := fun W hb => liveIn_any v L tp si now B W (hs.below hb) hn
  have HM : Hid (liveB8 L tp si now = (mayG L tp si now && hereG L tp si now)) := rfl
  clear hs
  generalize liveB8 L tp si now = R at *
  generalize mayG L tp si now = r1 at *
  generalize hereG L tp si now = r2 at *
  unfold leaveV at *
  have KM : Hid (∀ W, Below w.heap.size w W → Calls Try.prog 40 #[v, .agg #[.string tp, .string si], .int .i64 now] W fun e w' => e = .returned (.bool r1) ∧ Below W.heap.size W w') := KM0
  have KI : Hid (∀ W, Below w.heap.size w W → Calls Try.prog 65 #[.agg #[.string tp, .string si], v, .int .i64 now] W fun e w' => e = .returned (.bool r2) ∧ Below W.heap.size W w') := KI0
  clear KM0 KI0
  obtain ⟨W0, hW⟩ : ∃ W0, W0 = w.alloc (.cells #[.string tp, .string si] 60) := ⟨_, rfl⟩
  have hW0 : Hid (W0 = w.alloc (.cells #[.string tp, .string si] 60)) := hW
  have B0 : Hid (Below w.heap.size w W0) := by show Below _ _ _; rw [hW]; exact (Below.refl _ _).alloc (Nat.le_refl _) _
  have g0 : W0.cell? ⟨w.heap.size, 0, none⟩ = some (.string tp) := by rw [hW]; simp
  have g1 : W0.cell? ⟨w.heap.size, 1, none⟩ = some (.string si) := by rw [hW]; simp
  have zw : w.heap.size < W0.heap.size := by rw [hW]; simp
  clear hW
  go_enter Try.func24, Try.ntmps24
  go_upto_region 2 with fail
  rw [← hW0.out]
  clear hW0
  generalize hbb : w.heap.size = b at *
  go_wp2_with fail
  refine (KM.out _ B0.out).mono ?_
  rintro e w1 ⟨rfl, hb1⟩
  have x0 : w1.cell? ⟨b, 0, none⟩ = some (.string tp) := ((bcell hb1).1 _ _ zw).trans g0
  have x1 : w1.cell? ⟨b, 1, none⟩ = some (.string si) := ((bcell hb1).1 _ _ zw).trans g1
  have B1 : Hid (Below b w w1) := B0.out.trans (hb1.mono (Nat.le_of_lt zw))
  have zw1 : b < w1.heap.size := Nat.lt_of_lt_of_le zw hb1.size
  clear hb1 g0 g1 KM B0
  cases r1 with
  | false =>
    go_wp2
    go_ret
    exact ⟨ret_bool HM.out.symm, by rw [hbb]; exact B1.out⟩
  | true =>
    go_wp2_with fail
    refine (KI.out _ B1.out).mono ?_
    rintro e w2 ⟨rfl, hb2⟩
    have B2 : Hid (Below b w w2) := B1.out.trans (hb2.mono (Nat.le_of_lt zw1))
    clear hb2
    go_wp2
    go_ret
    exact ⟨ret_bool HM.out.symm, by rw [hbb]; exact B2.out⟩
end Go.Proofs.Ytecaeolgheefmaa

/- The laws' lwOthers: the live grants of others are the same. -/
namespace Go.Proofs.Ytecaeolgheefmaa
open Go.RowKit
set_option maxRecDepth 10000 in
set_option maxHeartbeats 8000000 in
theorem lwOthers_any (a b : Value) (L M : List Gr) (top site : ByteArray) (now : Int) (B B' : Nat) (w : World) (ha : SliceG w B a L) (hb : SliceG w B' b M) (hn : L.length ≤ 1048576) (hm : M.length ≤ 1048576)
    (hq : ∀ x, x ∈ L → ((x.tp.toList == top.toList) && (x.si.toList == site.toList)) = false → liveB8 L x.tp x.si now = liveB8 M x.tp x.si now) :
    Calls Try.prog 28 #[a, b, .string top, .string site, .int .i64 now] w fun e w' => e = .returned (.bool true) ∧ Below w.heap.size w w' := by
  have KA : Hid (∀ k W, Below w.heap.size w W → Calls Try.prog 24 #[a, .string (atG L k).tp, .string (atG L k).si, .int .i64 now] W fun e w' => e = .returned (.bool (liveB8 L (atG L k).tp (atG L k).si now)) ∧ Below W.heap.size W w') := fun k W h => grantLive_any a L _ _ now B W (ha.below h) hn
  have KB : Hid (∀ k W, Below w.heap.size w W → Calls Try.prog 24 #[b, .string (atG L k).tp, .string (atG L k).si, .int .i64 now] W fun e w' => e = .returned (.bool (liveB8 M (atG L k).tp (atG L k).si now)) ∧ Below W.heap.size W w') := fun k W h => grantLive_any b M _ _ now B' W (hb.below h) hm
  have HQ : Hid (∀ k, k < L.length → (((atG L k).tp.toList == top.toList) && ((atG L k).si.toList == site.toList)) = false → liveB8 L (atG L k).tp (atG L k).si now = liveB8 M (atG L k).tp (atG L k).si now) := fun k hk h => hq _ (by rw [atG_get hk]; exact List.getElem_mem hk) h
  obtain ⟨⟨p, cap, rfl, h1⟩, -⟩ := ha
  have H1 : Hid (0 < L.length → ∃ g, p = some ⟨g, 0, none⟩ ∧ B ≤ g ∧ g < w.heap.size ∧ ∀ j, j < L.length → ∀ o, o < 3 → w.cell? ⟨g, j * 3 + o, none⟩ = some (grR L j o) ∧ w.frozen? ⟨g, j * 3 + o, none⟩ = false) := h1
  clear h1 hb hq hm
  go_enter Try.func28, Try.ntmps28
  go_wp2
  go_loopw [11] (fun i wr => ∃ k : Nat, k ≤ L.length ∧ i = .int .i64 k ∧ Hid (Below w.heap.size w wr)) (fun i _ => L.length - (intOf i).toNat)
  case atStart => exact ⟨0, by omega, rfl, Below.refl _ _⟩
  case round =>
    obtain ⟨k, hk, rfl, HB⟩ := hrel
    by_cases hlt : k < L.length
    · obtain ⟨g, rfl, -, hg, hc⟩ := H1.out (by omega)
      have hx : ∀ o, o < 3 → wr.cell? ⟨g, k * 3 + o, none⟩ = some (grC (atG L k) o) := fun o ho => by rw [(bcell HB.out).1 _ _ hg]; exact (hc k hlt o ho).1
      have c0 : wr.cell? ⟨g, k * 3, none⟩ = some (.string (atG L k).tp) := hx 0 (by omega)
      have c1 : wr.cell? ⟨g, k * 3 + 1, none⟩ = some (.string (atG L k).si) := hx 1 (by omega)
      have c2 : wr.cell? ⟨g, k * 3 + 2, none⟩ = some (.int .i64 (atG L k).un) := hx 2 (by omega)
      have KA1 : Hid (∀ W, Below w.heap.size w W → Calls Try.prog 24 #[.slice (some ⟨g, 0, none⟩) L.length cap, .string (atG L k).tp, .string (atG L k).si, .int .i64 now] W fun e w' => e = .returned (.bool (liveB8 L (atG L k).tp (atG L k).si now)) ∧ Below W.heap.size W w') := KA.out k
      have KB1 : Hid (∀ W, Below w.heap.size w W → Calls Try.prog 24 #[b, .string (atG L k).tp, .string (atG L k).si, .int .i64 now] W fun e w' => e = .returned (.bool (liveB8 M (atG L k).tp (atG L k).si now)) ∧ Below W.heap.size W w') := KB.out k
      have HQ1 := HQ.out k hlt
      have k0 : (0 : Int) ≤ k := by omega
      have k1 : (k : Int) < L.length := by omega
      clear hc hx KA KB HQ H1
      generalize liveB8 L (atG L k).tp (atG L k).si now = lA at *
      generalize liveB8 M (atG L k).tp (atG L k).si now = lB at *
      generalize atG L k = y at *
      obtain ⟨xt, xs, xu⟩ := y
      dsimp only at *
      have HQ2 : Hid (((xt.toList == top.toList) && (xs.toList == site.toList)) = false → lA = lB) := HQ1
      clear HQ1
      obtain ⟨w6, h6⟩ : ∃ W, W = wr.alloc (.cells #[.string xt, .string xs, .int .i64 xu] 64) := ⟨_, rfl⟩
      have H6 : Hid (w6 = wr.alloc (.cells #[.string xt, .string xs, .int .i64 xu] 64)) := h6
      have B6 : Hid (Below w.heap.size w w6) := by show Below _ _ _; rw [h6]; exact HB.out.alloc HB.out.size _
      obtain ⟨bx, hbx⟩ : ∃ b, b = wr.heap.size := ⟨_, rfl⟩
      have Hbx : Hid (bx = wr.heap.size) := hbx
      have p60 : w6.cell? ⟨bx, 0, none⟩ = some (.string xt) := by rw [h6, hbx]; simp
      have p61 : w6.cell? ⟨bx, 1, none⟩ = some (.string xs) := by rw [h6, hbx]; simp
      have p62 : w6.cell? ⟨bx, 2, none⟩ = some (.int .i64 xu) := by rw [h6, hbx]; simp
      have z6 : bx + 1 ≤ w6.heap.size := by rw [h6, hbx]; simp
      clear h6 hbx
      go_upto_region 5 with fail
      rw [← H6.out, ← Hbx.out]
      clear H6 Hbx c0 c1 c2 HB
      cases e1 : (xt.toList == top.toList) with
      | false =>
        obtain rfl : lA = lB := HQ2.out (by rw [e1]; rfl)
        refine wp_region_held_drew (S := (fun w' => bx + 1 ≤ w'.heap.size ∧ w'.cell? ⟨bx, 0, none⟩ = some (.string xt) ∧ w'.cell? ⟨bx, 1, none⟩ = some (.string xs) ∧ w'.cell? ⟨bx, 2, none⟩ = some (.int .i64 xu))) (by kernel_rfl) ?_ (fun hH0 => ?_)
        · (try dsimp only)
          go_keep
        refine wpAnyH_take (i := 0) (oi := { dst := some 23, op := Op.fieldAddr 64 (Operand.tmp 12) 0, type := 0, pos := "laws.go:424", after := #[], guard := none }) (v := ?va0) rfl (by kernel_rfl) (by kernel_rfl) (by kernel_rfl) (fun _ _ _ h => h) (Or.inl ⟨by rfl, ?hya0⟩) (by assumption) ?resta0
        case hya0 =>
          intro w hSw
          (try dsimp only at hSw)
          go_simp
          try with_reducible rfl
        try simp only [Act.put, List.setIfInBounds_toArray, List.set_cons_zero, List.set_cons_succ]
        refine wpAnyH_take (i := 1) (oi := { dst := some 24, op := Op.load 9 (Operand.tmp 23), type := 9, pos := "laws.go:424", after := #[{ on := 0, ground := Ground.data }], guard := none }) (v := ?va1) rfl (by kernel_rfl) (by kernel_rfl) (by kernel_rfl) (fun _ _ _ h => h) (Or.inl ⟨by rfl, ?hya1⟩) (by assumption) ?resta1
        case hya1 =>
          intro w hSw
          (try dsimp only at hSw)
          go_simp
          try with_reducible rfl
        try simp only [Act.put, List.setIfInBounds_toArray, List.set_cons_zero, List.set_cons_succ]
        refine wpAnyH_take (i := 2) (oi := { dst := some 25, op := Op.move (Operand.tmp 2), type := 9, pos := "laws.go:424", after := #[], guard := none }) (v := ?va2) rfl (by kernel_rfl) (by kernel_rfl) (by kernel_rfl) (fun _ _ _ h => h) (Or.inl ⟨by rfl, ?hya2⟩) (by assumption) ?resta2
        case hya2 =>
          intro w hSw
          (try dsimp only at hSw)
          go_simp
          try with_reducible rfl
        try simp only [Act.put, List.setIfInBounds_toArray, List.set_cons_zero, List.set_cons_succ]
        refine wpAnyH_take (i := 3) (oi := { dst := some 26, op := Op.binOp BinOp.neq 9 (Operand.tmp 24) (Operand.tmp 25) 9, type := 4, pos := "laws.go:424", after := #[{ on := 1, ground := Ground.data }, { on := 2, ground := Ground.data }], guard := none }) (v := ?va3) rfl (by kernel_rfl) (by kernel_rfl) (by kernel_rfl) (fun _ _ _ h => h) (Or.inl ⟨by rfl, ?hya3⟩) (by assumption) ?resta3
        case hya3 =>
          intro w hSw
          (try dsimp only at hSw)
          go_simp
          try with_reducible rfl
        try simp only [Act.put, List.setIfInBounds_toArray, List.set_cons_zero, List.set_cons_succ]
        refine wpAnyH_take (i := 4) (oi := { dst := some 27, op := Op.move (Operand.tmp 26), type := 4, pos := "laws.go:424", after := #[{ on := 3, ground := Ground.data }], guard := none }) (v := ?va4) rfl (by kernel_rfl) (by kernel_rfl) (by kernel_rfl) (fun _ _ _ h => h) (Or.inl ⟨by rfl, ?hya4⟩) (by assumption) ?resta4
        case hya4 =>
          intro w hSw
          (try dsimp only at hSw)
          go_simp
          try with_reducible rfl
        try simp only [Act.put, List.setIfInBounds_toArray, List.set_cons_zero, List.set_cons_succ]
        refine wpAnyH_take (i := 5) (oi := { dst := some 28, op := Op.fieldAddr 64 (Operand.tmp 12) 1, type := 0, pos := "laws.go:424", after := #[{ on := 4, ground := Ground.guard }], guard := some (4, false) }) (v := undef) rfl (by kernel_rfl) (by kernel_rfl) (by kernel_rfl) (fun _ _ _ h => h) (Or.inr ⟨by rfl, rfl⟩) (by assumption) ?_
        try simp only [Act.put, List.setIfInBounds_toArray, List.set_cons_zero, List.set_cons_succ]
        refine wpAnyH_take (i := 6) (oi := { dst := some 29, op := Op.load 9 (Operand.tmp 28), type := 9, pos := "laws.go:424", after := #[{ on := 5, ground := Ground.data }, { on := 4, ground := Ground.guard }], guard := some (4, false) }) (v := undef) rfl (by kernel_rfl) (by kernel_rfl) (by kernel_rfl) (fun _ _ _ h => h) (Or.inr ⟨by rfl, rfl⟩) (by assumption) ?_
        try simp only [Act.put, List.setIfInBounds_toArray, List.set_cons_zero, List.set_cons_succ]
        refine wpAnyH_take (i := 7) (oi := { dst := some 30, op := Op.move (Operand.tmp 3), type := 9, pos := "laws.go:424", after := #[{ on := 4, ground := Ground.guard }], guard := some (4, false) }) (v := undef) rfl (by kernel_rfl) (by kernel_rfl) (by kernel_rfl) (fun _ _ _ h => h) (Or.inr ⟨by rfl, rfl⟩) (by assumption) ?_
        try simp only [Act.put, List.setIfInBounds_toArray, List.set_cons_zero, List.set_cons_succ]
        refine wpAnyH_take (i := 8) (oi := { dst := some 31, op := Op.binOp BinOp.neq 9 (Operand.tmp 29) (Operand.tmp 30) 9, type := 4, pos := "laws.go:424", after := #[{ on := 6, ground := Ground.data }, { on := 7, ground := Ground.data }, { on := 4, ground := Ground.guard }], guard := some (4, false) }) (v := undef) rfl (by kernel_rfl) (by kernel_rfl) (by kernel_rfl) (fun _ _ _ h => h) (Or.inr ⟨by rfl, rfl⟩) (by assumption) ?_
        try simp only [Act.put, List.setIfInBounds_toArray, List.set_cons_zero, List.set_cons_succ]
        refine wpAnyH_take (i := 9) (oi := { dst := some 32, op := Op.pick (Operand.tmp 27) (Operand.const (Value.bool true)) (Operand.tmp 31), type := 4, pos := "laws.go:424", after := #[{ on := 4, ground := Ground.data }, { on := 8, ground := Ground.data }], guard := none }) (v := ?va9) rfl (by kernel_rfl) (by kernel_rfl) (by kernel_rfl) (fun _ _ _ h => h) (Or.inl ⟨by rfl, ?hya9⟩) (by assumption) ?resta9
        case hya9 =>
          intro w hSw
          (try dsimp only at hSw)
          go_simp
          try with_reducible rfl
        try simp only [Act.put, List.setIfInBounds_toArray, List.set_cons_zero, List.set_cons_succ]
        refine wpAnyH_take (i := 10) (oi := { dst := some 33, op := Op.move (Operand.tmp 32), type := 4, pos := "laws.go:424", after := #[{ on := 9, ground := Ground.data }, { on := 4, ground := Ground.chain }], guard := none }) (v := ?va10) rfl (by kernel_rfl) (by kernel_rfl) (by kernel_rfl) (fun _ _ _ h => h) (Or.inl ⟨by rfl, ?hya10⟩) (by assumption) ?resta10
        case hya10 =>
          intro w hSw
          (try dsimp only at hSw)
          go_simp
          try with_reducible rfl
        try simp only [Act.put, List.setIfInBounds_toArray, List.set_cons_zero, List.set_cons_succ]
        refine wpAnyH_take (i := 11) (oi := { dst := some 34, op := Op.move (Operand.tmp 0), type := 23, pos := "laws.go:424", after := #[{ on := 10, ground := Ground.guard }], guard := some (10, true) }) (v := ?va11) rfl (by kernel_rfl) (by kernel_rfl) (by kernel_rfl) (fun _ _ _ h => h) (Or.inl ⟨by rfl, ?hya11⟩) (by assumption) ?resta11
        case hya11 =>
          intro w hSw
          (try dsimp only at hSw)
          go_simp
          try with_reducible rfl
        try simp only [Act.put, List.setIfInBounds_toArray, List.set_cons_zero, List.set_cons_succ]
        refine wpAnyH_take (i := 12) (oi := { dst := some 35, op := Op.fieldAddr 64 (Operand.tmp 12) 0, type := 0, pos := "laws.go:424", after := #[{ on := 10, ground := Ground.guard }], guard := some (10, true) }) (v := ?va12) rfl (by kernel_rfl) (by kernel_rfl) (by kernel_rfl) (fun _ _ _ h => h) (Or.inl ⟨by rfl, ?hya12⟩) (by assumption) ?resta12
        case hya12 =>
          intro w hSw
          (try dsimp only at hSw)
          go_simp
          try with_reducible rfl
        try simp only [Act.put, List.setIfInBounds_toArray, List.set_cons_zero, List.set_cons_succ]
        refine wpAnyH_take (i := 13) (oi := { dst := some 36, op := Op.load 9 (Operand.tmp 35), type := 9, pos := "laws.go:424", after := #[{ on := 12, ground := Ground.data }, { on := 10, ground := Ground.guard }], guard := some (10, true) }) (v := ?va13) rfl (by kernel_rfl) (by kernel_rfl) (by kernel_rfl) (fun _ _ _ h => h) (Or.inl ⟨by rfl, ?hya13⟩) (by assumption) ?resta13
        case hya13 =>
          intro w hSw
          (try dsimp only at hSw)
          go_simp
          try with_reducible rfl
        try simp only [Act.put, List.setIfInBounds_toArray, List.set_cons_zero, List.set_cons_succ]
        refine wpAnyH_take (i := 14) (oi := { dst := some 37, op := Op.fieldAddr 64 (Operand.tmp 12) 1, type := 0, pos := "laws.go:424", after := #[{ on := 10, ground := Ground.guard }], guard := some (10, true) }) (v := ?va14) rfl (by kernel_rfl) (by kernel_rfl) (by kernel_rfl) (fun _ _ _ h => h) (Or.inl ⟨by rfl, ?hya14⟩) (by assumption) ?resta14
        case hya14 =>
          intro w hSw
          (try dsimp only at hSw)
          go_simp
          try with_reducible rfl
        try simp only [Act.put, List.setIfInBounds_toArray, List.set_cons_zero, List.set_cons_succ]
        refine wpAnyH_take (i := 15) (oi := { dst := some 38, op := Op.load 9 (Operand.tmp 37), type := 9, pos := "laws.go:424", after := #[{ on := 14, ground := Ground.data }, { on := 10, ground := Ground.guard }], guard := some (10, true) }) (v := ?va15) rfl (by kernel_rfl) (by kernel_rfl) (by kernel_rfl) (fun _ _ _ h => h) (Or.inl ⟨by rfl, ?hya15⟩) (by assumption) ?resta15
        case hya15 =>
          intro w hSw
          (try dsimp only at hSw)
          go_simp
          try with_reducible rfl
        try simp only [Act.put, List.setIfInBounds_toArray, List.set_cons_zero, List.set_cons_succ]
        refine wpAnyH_take (i := 16) (oi := { dst := some 39, op := Op.move (Operand.tmp 4), type := 2, pos := "laws.go:424", after := #[{ on := 10, ground := Ground.guard }], guard := some (10, true) }) (v := ?va16) rfl (by kernel_rfl) (by kernel_rfl) (by kernel_rfl) (fun _ _ _ h => h) (Or.inl ⟨by rfl, ?hya16⟩) (by assumption) ?resta16
        case hya16 =>
          intro w hSw
          (try dsimp only at hSw)
          go_simp
          try with_reducible rfl
        try simp only [Act.put, List.setIfInBounds_toArray, List.set_cons_zero, List.set_cons_succ]
        refine wpAnyH_take (i := 18) (oi := { dst := some 41, op := Op.move (Operand.tmp 1), type := 23, pos := "laws.go:424", after := #[{ on := 10, ground := Ground.guard }], guard := some (10, true) }) (v := ?va18) rfl (by kernel_rfl) (by kernel_rfl) (by kernel_rfl) (fun _ _ _ h => h) (Or.inl ⟨by rfl, ?hya18⟩) (by assumption) ?resta18
        case hya18 =>
          intro w hSw
          (try dsimp only at hSw)
          go_simp
          try with_reducible rfl
        try simp only [Act.put, List.setIfInBounds_toArray, List.set_cons_zero, List.set_cons_succ]
        refine wpAnyH_take (i := 19) (oi := { dst := some 42, op := Op.fieldAddr 64 (Operand.tmp 12) 0, type := 0, pos := "laws.go:424", after := #[{ on := 10, ground := Ground.guard }], guard := some (10, true) }) (v := ?va19) rfl (by kernel_rfl) (by kernel_rfl) (by kernel_rfl) (fun _ _ _ h => h) (Or.inl ⟨by rfl, ?hya19⟩) (by assumption) ?resta19
        case hya19 =>
          intro w hSw
          (try dsimp only at hSw)
          go_simp
          try with_reducible rfl
        try simp only [Act.put, List.setIfInBounds_toArray, List.set_cons_zero, List.set_cons_succ]
        refine wpAnyH_take (i := 20) (oi := { dst := some 43, op := Op.load 9 (Operand.tmp 42), type := 9, pos := "laws.go:424", after := #[{ on := 19, ground := Ground.data }, { on := 10, ground := Ground.guard }], guard := some (10, true) }) (v := ?va20) rfl (by kernel_rfl) (by kernel_rfl) (by kernel_rfl) (fun _ _ _ h => h) (Or.inl ⟨by rfl, ?hya20⟩) (by assumption) ?resta20
        case hya20 =>
          intro w hSw
          (try dsimp only at hSw)
          go_simp
          try with_reducible rfl
        try simp only [Act.put, List.setIfInBounds_toArray, List.set_cons_zero, List.set_cons_succ]
        refine wpAnyH_take (i := 21) (oi := { dst := some 44, op := Op.fieldAddr 64 (Operand.tmp 12) 1, type := 0, pos := "laws.go:424", after := #[{ on := 10, ground := Ground.guard }], guard := some (10, true) }) (v := ?va21) rfl (by kernel_rfl) (by kernel_rfl) (by kernel_rfl) (fun _ _ _ h => h) (Or.inl ⟨by rfl, ?hya21⟩) (by assumption) ?resta21
        case hya21 =>
          intro w hSw
          (try dsimp only at hSw)
          go_simp
          try with_reducible rfl
        try simp only [Act.put, List.setIfInBounds_toArray, List.set_cons_zero, List.set_cons_succ]
        refine wpAnyH_take (i := 22) (oi := { dst := some 45, op := Op.load 9 (Operand.tmp 44), type := 9, pos := "laws.go:424", after := #[{ on := 21, ground := Ground.data }, { on := 10, ground := Ground.guard }], guard := some (10, true) }) (v := ?va22) rfl (by kernel_rfl) (by kernel_rfl) (by kernel_rfl) (fun _ _ _ h => h) (Or.inl ⟨by rfl, ?hya22⟩) (by assumption) ?resta22
        case hya22 =>
          intro w hSw
          (try dsimp only at hSw)
          go_simp
          try with_reducible rfl
        try simp only [Act.put, List.setIfInBounds_toArray, List.set_cons_zero, List.set_cons_succ]
        refine wpAnyH_take (i := 23) (oi := { dst := some 46, op := Op.move (Operand.tmp 4), type := 2, pos := "laws.go:424", after := #[{ on := 10, ground := Ground.guard }], guard := some (10, true) }) (v := ?va23) rfl (by kernel_rfl) (by kernel_rfl) (by kernel_rfl) (fun _ _ _ h => h) (Or.inl ⟨by rfl, ?hya23⟩) (by assumption) ?resta23
        case hya23 =>
          intro w hSw
          (try dsimp only at hSw)
          go_simp
          try with_reducible rfl
        try simp only [Act.put, List.setIfInBounds_toArray, List.set_cons_zero, List.set_cons_succ]
        refine wpAnyH_ready (rs := [17]) (by kernel_rfl) (by simp) ?_
        refine AllReadyH.cons (o := { dst := some 40, op := Op.call { callee := Callee.value (Operand.func 24), args := #[Operand.tmp 34, Operand.tmp 36, Operand.tmp 38, Operand.tmp 39], argTypes := #[23, 9, 9, 2] }, type := 4, pos := "laws.go:424", after := #[{ on := 11, ground := Ground.data }, { on := 13, ground := Ground.data }, { on := 15, ground := Ground.data }, { on := 16, ground := Ground.data }, { on := 10, ground := Ground.chain }, { on := 10, ground := Ground.guard }], guard := some (10, true) }) rfl (fun K hK => ?_) AllReadyH.nil
        go_simp
        (go_at_call 24; refine (KA1.out _ (B6.out.trans (Below.drew (Below.refl _ _)))).mono ?_; rintro e w7 ⟨rfl, hb7⟩; have T7 := Cells.below (L := [(⟨bx, 0, none⟩, .string xt), (⟨bx, 1, none⟩, .string xs), (⟨bx, 2, none⟩, .int .i64 xu)]) (by simp only [Cells]; go_keep) hb7; simp only [Cells] at T7; obtain ⟨p70, p71, p72, -⟩ := T7; have z7 : bx + 1 ≤ w7.heap.size := Nat.le_trans z6 hb7.size; have B7 : Hid (Below w.heap.size w w7) := (B6.out.trans (Below.drew (Below.refl _ _))).trans (hb7.mono (by have := B6.out.size; simpa using this)))
        try (go_wp2_with fail)
        refine hK.out _ _ ?_ (fun hH1 => ?_)
        · (try dsimp only)
          go_keep
        clear hK K hH0
        try simp only [Act.put, List.setIfInBounds_toArray, List.set_cons_zero, List.set_cons_succ]
        refine wpAnyH_ready (rs := [24]) (by kernel_rfl) (by simp) ?_
        refine AllReadyH.cons (o := { dst := some 47, op := Op.call { callee := Callee.value (Operand.func 24), args := #[Operand.tmp 41, Operand.tmp 43, Operand.tmp 45, Operand.tmp 46], argTypes := #[23, 9, 9, 2] }, type := 4, pos := "laws.go:424", after := #[{ on := 18, ground := Ground.data }, { on := 20, ground := Ground.data }, { on := 22, ground := Ground.data }, { on := 23, ground := Ground.data }, { on := 17, ground := Ground.chain }, { on := 10, ground := Ground.guard }], guard := some (10, true) }) rfl (fun K hK => ?_) AllReadyH.nil
        go_simp
        (go_at_call 24; refine (KB1.out _ B7.out).mono ?_; rintro e w8 ⟨rfl, hb8⟩; have T8 := Cells.below (L := [(⟨bx, 0, none⟩, .string xt), (⟨bx, 1, none⟩, .string xs), (⟨bx, 2, none⟩, .int .i64 xu)]) (by simp only [Cells]; go_keep) hb8; simp only [Cells] at T8; obtain ⟨p80, p81, p82, -⟩ := T8; have z8 : bx + 1 ≤ w8.heap.size := Nat.le_trans z7 hb8.size; have B8 : Hid (Below w.heap.size w w8) := B7.out.trans (hb8.mono B7.out.size); clear p70 p71 p72 z7 hb7)
        try (go_wp2_with fail)
        refine hK.out _ _ ?_ (fun hH2 => ?_)
        · (try dsimp only)
          go_keep
        clear hK K hH1
        try simp only [Act.put, List.setIfInBounds_toArray, List.set_cons_zero, List.set_cons_succ]
        refine wpAnyH_take (i := 25) (oi := { dst := some 48, op := Op.binOp BinOp.neq 4 (Operand.tmp 40) (Operand.tmp 47) 4, type := 4, pos := "laws.go:424", after := #[{ on := 17, ground := Ground.data }, { on := 24, ground := Ground.data }, { on := 10, ground := Ground.guard }], guard := some (10, true) }) (v := ?va25) rfl (by kernel_rfl) (by kernel_rfl) (by kernel_rfl) (fun _ _ _ h => h) (Or.inl ⟨by rfl, ?hya25⟩) (by assumption) ?resta25
        case hya25 =>
          intro w hSw
          (try dsimp only at hSw)
          go_simp
          try with_reducible rfl
        try simp only [Act.put, List.setIfInBounds_toArray, List.set_cons_zero, List.set_cons_succ]
        refine wpAnyH_take (i := 26) (oi := { dst := some 49, op := Op.pick (Operand.tmp 33) (Operand.tmp 48) (Operand.const (Value.bool false)), type := 4, pos := "laws.go:424", after := #[{ on := 10, ground := Ground.data }, { on := 25, ground := Ground.data }], guard := none }) (v := ?va26) rfl (by kernel_rfl) (by kernel_rfl) (by kernel_rfl) (fun _ _ _ h => h) (Or.inl ⟨by rfl, ?hya26⟩) (by assumption) ?resta26
        case hya26 =>
          intro w hSw
          (try dsimp only at hSw)
          go_simp
          try with_reducible rfl
        try simp only [Act.put, List.setIfInBounds_toArray, List.set_cons_zero, List.set_cons_succ]
        refine wpAnyH_done (by kernel_rfl) ?_ _
        go_wp2
        go_roundw
        case rel => exact ⟨k + 1, by omega, by go_num, B8.out⟩
        case measure => simp [intOf]; omega
      | true =>
        cases e2 : (xs.toList == site.toList) with
        | false =>
          obtain rfl : lA = lB := HQ2.out (by rw [e1, e2]; rfl)
          refine wp_region_held_drew (S := (fun w' => bx + 1 ≤ w'.heap.size ∧ w'.cell? ⟨bx, 0, none⟩ = some (.string xt) ∧ w'.cell? ⟨bx, 1, none⟩ = some (.string xs) ∧ w'.cell? ⟨bx, 2, none⟩ = some (.int .i64 xu))) (by kernel_rfl) ?_ (fun hH0 => ?_)
          · (try dsimp only)
            go_keep
          refine wpAnyH_take (i := 0) (oi := { dst := some 23, op := Op.fieldAddr 64 (Operand.tmp 12) 0, type := 0, pos := "laws.go:424", after := #[], guard := none }) (v := ?vb0) rfl (by kernel_rfl) (by kernel_rfl) (by kernel_rfl) (fun _ _ _ h => h) (Or.inl ⟨by rfl, ?hyb0⟩) (by assumption) ?restb0
          case hyb0 =>
            intro w hSw
            (try dsimp only at hSw)
            go_simp
            try with_reducible rfl
          try simp only [Act.put, List.setIfInBounds_toArray, List.set_cons_zero, List.set_cons_succ]
          refine wpAnyH_take (i := 1) (oi := { dst := some 24, op := Op.load 9 (Operand.tmp 23), type := 9, pos := "laws.go:424", after := #[{ on := 0, ground := Ground.data }], guard := none }) (v := ?vb1) rfl (by kernel_rfl) (by kernel_rfl) (by kernel_rfl) (fun _ _ _ h => h) (Or.inl ⟨by rfl, ?hyb1⟩) (by assumption) ?restb1
          case hyb1 =>
            intro w hSw
            (try dsimp only at hSw)
            go_simp
            try with_reducible rfl
          try simp only [Act.put, List.setIfInBounds_toArray, List.set_cons_zero, List.set_cons_succ]
          refine wpAnyH_take (i := 2) (oi := { dst := some 25, op := Op.move (Operand.tmp 2), type := 9, pos := "laws.go:424", after := #[], guard := none }) (v := ?vb2) rfl (by kernel_rfl) (by kernel_rfl) (by kernel_rfl) (fun _ _ _ h => h) (Or.inl ⟨by rfl, ?hyb2⟩) (by assumption) ?restb2
          case hyb2 =>
            intro w hSw
            (try dsimp only at hSw)
            go_simp
            try with_reducible rfl
          try simp only [Act.put, List.setIfInBounds_toArray, List.set_cons_zero, List.set_cons_succ]
          refine wpAnyH_take (i := 3) (oi := { dst := some 26, op := Op.binOp BinOp.neq 9 (Operand.tmp 24) (Operand.tmp 25) 9, type := 4, pos := "laws.go:424", after := #[{ on := 1, ground := Ground.data }, { on := 2, ground := Ground.data }], guard := none }) (v := ?vb3) rfl (by kernel_rfl) (by kernel_rfl) (by kernel_rfl) (fun _ _ _ h => h) (Or.inl ⟨by rfl, ?hyb3⟩) (by assumption) ?restb3
          case hyb3 =>
            intro w hSw
            (try dsimp only at hSw)
            go_simp
            try with_reducible rfl
          try simp only [Act.put, List.setIfInBounds_toArray, List.set_cons_zero, List.set_cons_succ]
          refine wpAnyH_take (i := 4) (oi := { dst := some 27, op := Op.move (Operand.tmp 26), type := 4, pos := "laws.go:424", after := #[{ on := 3, ground := Ground.data }], guard := none }) (v := ?vb4) rfl (by kernel_rfl) (by kernel_rfl) (by kernel_rfl) (fun _ _ _ h => h) (Or.inl ⟨by rfl, ?hyb4⟩) (by assumption) ?restb4
          case hyb4 =>
            intro w hSw
            (try dsimp only at hSw)
            go_simp
            try with_reducible rfl
          try simp only [Act.put, List.setIfInBounds_toArray, List.set_cons_zero, List.set_cons_succ]
          refine wpAnyH_take (i := 5) (oi := { dst := some 28, op := Op.fieldAddr 64 (Operand.tmp 12) 1, type := 0, pos := "laws.go:424", after := #[{ on := 4, ground := Ground.guard }], guard := some (4, false) }) (v := ?vb5) rfl (by kernel_rfl) (by kernel_rfl) (by kernel_rfl) (fun _ _ _ h => h) (Or.inl ⟨by rfl, ?hyb5⟩) (by assumption) ?restb5
          case hyb5 =>
            intro w hSw
            (try dsimp only at hSw)
            go_simp
            try with_reducible rfl
          try simp only [Act.put, List.setIfInBounds_toArray, List.set_cons_zero, List.set_cons_succ]
          refine wpAnyH_take (i := 6) (oi := { dst := some 29, op := Op.load 9 (Operand.tmp 28), type := 9, pos := "laws.go:424", after := #[{ on := 5, ground := Ground.data }, { on := 4, ground := Ground.guard }], guard := some (4, false) }) (v := ?vb6) rfl (by kernel_rfl) (by kernel_rfl) (by kernel_rfl) (fun _ _ _ h => h) (Or.inl ⟨by rfl, ?hyb6⟩) (by assumption) ?restb6
          case hyb6 =>
            intro w hSw
            (try dsimp only at hSw)
            go_simp
            try with_reducible rfl
          try simp only [Act.put, List.setIfInBounds_toArray, List.set_cons_zero, List.set_cons_succ]
          refine wpAnyH_take (i := 7) (oi := { dst := some 30, op := Op.move (Operand.tmp 3), type := 9, pos := "laws.go:424", after := #[{ on := 4, ground := Ground.guard }], guard := some (4, false) }) (v := ?vb7) rfl (by kernel_rfl) (by kernel_rfl) (by kernel_rfl) (fun _ _ _ h => h) (Or.inl ⟨by rfl, ?hyb7⟩) (by assumption) ?restb7
          case hyb7 =>
            intro w hSw
            (try dsimp only at hSw)
            go_simp
            try with_reducible rfl
          try simp only [Act.put, List.setIfInBounds_toArray, List.set_cons_zero, List.set_cons_succ]
          refine wpAnyH_take (i := 8) (oi := { dst := some 31, op := Op.binOp BinOp.neq 9 (Operand.tmp 29) (Operand.tmp 30) 9, type := 4, pos := "laws.go:424", after := #[{ on := 6, ground := Ground.data }, { on := 7, ground := Ground.data }, { on := 4, ground := Ground.guard }], guard := some (4, false) }) (v := ?vb8) rfl (by kernel_rfl) (by kernel_rfl) (by kernel_rfl) (fun _ _ _ h => h) (Or.inl ⟨by rfl, ?hyb8⟩) (by assumption) ?restb8
          case hyb8 =>
            intro w hSw
            (try dsimp only at hSw)
            go_simp
            try with_reducible rfl
          try simp only [Act.put, List.setIfInBounds_toArray, List.set_cons_zero, List.set_cons_succ]
          refine wpAnyH_take (i := 9) (oi := { dst := some 32, op := Op.pick (Operand.tmp 27) (Operand.const (Value.bool true)) (Operand.tmp 31), type := 4, pos := "laws.go:424", after := #[{ on := 4, ground := Ground.data }, { on := 8, ground := Ground.data }], guard := none }) (v := ?vb9) rfl (by kernel_rfl) (by kernel_rfl) (by kernel_rfl) (fun _ _ _ h => h) (Or.inl ⟨by rfl, ?hyb9⟩) (by assumption) ?restb9
          case hyb9 =>
            intro w hSw
            (try dsimp only at hSw)
            go_simp
            try with_reducible rfl
          try simp only [Act.put, List.setIfInBounds_toArray, List.set_cons_zero, List.set_cons_succ]
          refine wpAnyH_take (i := 10) (oi := { dst := some 33, op := Op.move (Operand.tmp 32), type := 4, pos := "laws.go:424", after := #[{ on := 9, ground := Ground.data }, { on := 4, ground := Ground.chain }], guard := none }) (v := ?vb10) rfl (by kernel_rfl) (by kernel_rfl) (by kernel_rfl) (fun _ _ _ h => h) (Or.inl ⟨by rfl, ?hyb10⟩) (by assumption) ?restb10
          case hyb10 =>
            intro w hSw
            (try dsimp only at hSw)
            go_simp
            try with_reducible rfl
          try simp only [Act.put, List.setIfInBounds_toArray, List.set_cons_zero, List.set_cons_succ]
          refine wpAnyH_take (i := 11) (oi := { dst := some 34, op := Op.move (Operand.tmp 0), type := 23, pos := "laws.go:424", after := #[{ on := 10, ground := Ground.guard }], guard := some (10, true) }) (v := ?vb11) rfl (by kernel_rfl) (by kernel_rfl) (by kernel_rfl) (fun _ _ _ h => h) (Or.inl ⟨by rfl, ?hyb11⟩) (by assumption) ?restb11
          case hyb11 =>
            intro w hSw
            (try dsimp only at hSw)
            go_simp
            try with_reducible rfl
          try simp only [Act.put, List.setIfInBounds_toArray, List.set_cons_zero, List.set_cons_succ]
          refine wpAnyH_take (i := 12) (oi := { dst := some 35, op := Op.fieldAddr 64 (Operand.tmp 12) 0, type := 0, pos := "laws.go:424", after := #[{ on := 10, ground := Ground.guard }], guard := some (10, true) }) (v := ?vb12) rfl (by kernel_rfl) (by kernel_rfl) (by kernel_rfl) (fun _ _ _ h => h) (Or.inl ⟨by rfl, ?hyb12⟩) (by assumption) ?restb12
          case hyb12 =>
            intro w hSw
            (try dsimp only at hSw)
            go_simp
            try with_reducible rfl
          try simp only [Act.put, List.setIfInBounds_toArray, List.set_cons_zero, List.set_cons_succ]
          refine wpAnyH_take (i := 13) (oi := { dst := some 36, op := Op.load 9 (Operand.tmp 35), type := 9, pos := "laws.go:424", after := #[{ on := 12, ground := Ground.data }, { on := 10, ground := Ground.guard }], guard := some (10, true) }) (v := ?vb13) rfl (by kernel_rfl) (by kernel_rfl) (by kernel_rfl) (fun _ _ _ h => h) (Or.inl ⟨by rfl, ?hyb13⟩) (by assumption) ?restb13
          case hyb13 =>
            intro w hSw
            (try dsimp only at hSw)
            go_simp
            try with_reducible rfl
          try simp only [Act.put, List.setIfInBounds_toArray, List.set_cons_zero, List.set_cons_succ]
          refine wpAnyH_take (i := 14) (oi := { dst := some 37, op := Op.fieldAddr 64 (Operand.tmp 12) 1, type := 0, pos := "laws.go:424", after := #[{ on := 10, ground := Ground.guard }], guard := some (10, true) }) (v := ?vb14) rfl (by kernel_rfl) (by kernel_rfl) (by kernel_rfl) (fun _ _ _ h => h) (Or.inl ⟨by rfl, ?hyb14⟩) (by assumption) ?restb14
          case hyb14 =>
            intro w hSw
            (try dsimp only at hSw)
            go_simp
            try with_reducible rfl
          try simp only [Act.put, List.setIfInBounds_toArray, List.set_cons_zero, List.set_cons_succ]
          refine wpAnyH_take (i := 15) (oi := { dst := some 38, op := Op.load 9 (Operand.tmp 37), type := 9, pos := "laws.go:424", after := #[{ on := 14, ground := Ground.data }, { on := 10, ground := Ground.guard }], guard := some (10, true) }) (v := ?vb15) rfl (by kernel_rfl) (by kernel_rfl) (by kernel_rfl) (fun _ _ _ h => h) (Or.inl ⟨by rfl, ?hyb15⟩) (by assumption) ?restb15
          case hyb15 =>
            intro w hSw
            (try dsimp only at hSw)
            go_simp
            try with_reducible rfl
          try simp only [Act.put, List.setIfInBounds_toArray, List.set_cons_zero, List.set_cons_succ]
          refine wpAnyH_take (i := 16) (oi := { dst := some 39, op := Op.move (Operand.tmp 4), type := 2, pos := "laws.go:424", after := #[{ on := 10, ground := Ground.guard }], guard := some (10, true) }) (v := ?vb16) rfl (by kernel_rfl) (by kernel_rfl) (by kernel_rfl) (fun _ _ _ h => h) (Or.inl ⟨by rfl, ?hyb16⟩) (by assumption) ?restb16
          case hyb16 =>
            intro w hSw
            (try dsimp only at hSw)
            go_simp
            try with_reducible rfl
          try simp only [Act.put, List.setIfInBounds_toArray, List.set_cons_zero, List.set_cons_succ]
          refine wpAnyH_take (i := 18) (oi := { dst := some 41, op := Op.move (Operand.tmp 1), type := 23, pos := "laws.go:424", after := #[{ on := 10, ground := Ground.guard }], guard := some (10, true) }) (v := ?vb18) rfl (by kernel_rfl) (by kernel_rfl) (by kernel_rfl) (fun _ _ _ h => h) (Or.inl ⟨by rfl, ?hyb18⟩) (by assumption) ?restb18
          case hyb18 =>
            intro w hSw
            (try dsimp only at hSw)
            go_simp
            try with_reducible rfl
          try simp only [Act.put, List.setIfInBounds_toArray, List.set_cons_zero, List.set_cons_succ]
          refine wpAnyH_take (i := 19) (oi := { dst := some 42, op := Op.fieldAddr 64 (Operand.tmp 12) 0, type := 0, pos := "laws.go:424", after := #[{ on := 10, ground := Ground.guard }], guard := some (10, true) }) (v := ?vb19) rfl (by kernel_rfl) (by kernel_rfl) (by kernel_rfl) (fun _ _ _ h => h) (Or.inl ⟨by rfl, ?hyb19⟩) (by assumption) ?restb19
          case hyb19 =>
            intro w hSw
            (try dsimp only at hSw)
            go_simp
            try with_reducible rfl
          try simp only [Act.put, List.setIfInBounds_toArray, List.set_cons_zero, List.set_cons_succ]
          refine wpAnyH_take (i := 20) (oi := { dst := some 43, op := Op.load 9 (Operand.tmp 42), type := 9, pos := "laws.go:424", after := #[{ on := 19, ground := Ground.data }, { on := 10, ground := Ground.guard }], guard := some (10, true) }) (v := ?vb20) rfl (by kernel_rfl) (by kernel_rfl) (by kernel_rfl) (fun _ _ _ h => h) (Or.inl ⟨by rfl, ?hyb20⟩) (by assumption) ?restb20
          case hyb20 =>
            intro w hSw
            (try dsimp only at hSw)
            go_simp
            try with_reducible rfl
          try simp only [Act.put, List.setIfInBounds_toArray, List.set_cons_zero, List.set_cons_succ]
          refine wpAnyH_take (i := 21) (oi := { dst := some 44, op := Op.fieldAddr 64 (Operand.tmp 12) 1, type := 0, pos := "laws.go:424", after := #[{ on := 10, ground := Ground.guard }], guard := some (10, true) }) (v := ?vb21) rfl (by kernel_rfl) (by kernel_rfl) (by kernel_rfl) (fun _ _ _ h => h) (Or.inl ⟨by rfl, ?hyb21⟩) (by assumption) ?restb21
          case hyb21 =>
            intro w hSw
            (try dsimp only at hSw)
            go_simp
            try with_reducible rfl
          try simp only [Act.put, List.setIfInBounds_toArray, List.set_cons_zero, List.set_cons_succ]
          refine wpAnyH_take (i := 22) (oi := { dst := some 45, op := Op.load 9 (Operand.tmp 44), type := 9, pos := "laws.go:424", after := #[{ on := 21, ground := Ground.data }, { on := 10, ground := Ground.guard }], guard := some (10, true) }) (v := ?vb22) rfl (by kernel_rfl) (by kernel_rfl) (by kernel_rfl) (fun _ _ _ h => h) (Or.inl ⟨by rfl, ?hyb22⟩) (by assumption) ?restb22
          case hyb22 =>
            intro w hSw
            (try dsimp only at hSw)
            go_simp
            try with_reducible rfl
          try simp only [Act.put, List.setIfInBounds_toArray, List.set_cons_zero, List.set_cons_succ]
          refine wpAnyH_take (i := 23) (oi := { dst := some 46, op := Op.move (Operand.tmp 4), type := 2, pos := "laws.go:424", after := #[{ on := 10, ground := Ground.guard }], guard := some (10, true) }) (v := ?vb23) rfl (by kernel_rfl) (by kernel_rfl) (by kernel_rfl) (fun _ _ _ h => h) (Or.inl ⟨by rfl, ?hyb23⟩) (by assumption) ?restb23
          case hyb23 =>
            intro w hSw
            (try dsimp only at hSw)
            go_simp
            try with_reducible rfl
          try simp only [Act.put, List.setIfInBounds_toArray, List.set_cons_zero, List.set_cons_succ]
          refine wpAnyH_ready (rs := [17]) (by kernel_rfl) (by simp) ?_
          refine AllReadyH.cons (o := { dst := some 40, op := Op.call { callee := Callee.value (Operand.func 24), args := #[Operand.tmp 34, Operand.tmp 36, Operand.tmp 38, Operand.tmp 39], argTypes := #[23, 9, 9, 2] }, type := 4, pos := "laws.go:424", after := #[{ on := 11, ground := Ground.data }, { on := 13, ground := Ground.data }, { on := 15, ground := Ground.data }, { on := 16, ground := Ground.data }, { on := 10, ground := Ground.chain }, { on := 10, ground := Ground.guard }], guard := some (10, true) }) rfl (fun K hK => ?_) AllReadyH.nil
          go_simp
          (go_at_call 24; refine (KA1.out _ (B6.out.trans (Below.drew (Below.refl _ _)))).mono ?_; rintro e w7 ⟨rfl, hb7⟩; have T7 := Cells.below (L := [(⟨bx, 0, none⟩, .string xt), (⟨bx, 1, none⟩, .string xs), (⟨bx, 2, none⟩, .int .i64 xu)]) (by simp only [Cells]; go_keep) hb7; simp only [Cells] at T7; obtain ⟨p70, p71, p72, -⟩ := T7; have z7 : bx + 1 ≤ w7.heap.size := Nat.le_trans z6 hb7.size; have B7 : Hid (Below w.heap.size w w7) := (B6.out.trans (Below.drew (Below.refl _ _))).trans (hb7.mono (by have := B6.out.size; simpa using this)))
          try (go_wp2_with fail)
          refine hK.out _ _ ?_ (fun hH1 => ?_)
          · (try dsimp only)
            go_keep
          clear hK K hH0
          try simp only [Act.put, List.setIfInBounds_toArray, List.set_cons_zero, List.set_cons_succ]
          refine wpAnyH_ready (rs := [24]) (by kernel_rfl) (by simp) ?_
          refine AllReadyH.cons (o := { dst := some 47, op := Op.call { callee := Callee.value (Operand.func 24), args := #[Operand.tmp 41, Operand.tmp 43, Operand.tmp 45, Operand.tmp 46], argTypes := #[23, 9, 9, 2] }, type := 4, pos := "laws.go:424", after := #[{ on := 18, ground := Ground.data }, { on := 20, ground := Ground.data }, { on := 22, ground := Ground.data }, { on := 23, ground := Ground.data }, { on := 17, ground := Ground.chain }, { on := 10, ground := Ground.guard }], guard := some (10, true) }) rfl (fun K hK => ?_) AllReadyH.nil
          go_simp
          (go_at_call 24; refine (KB1.out _ B7.out).mono ?_; rintro e w8 ⟨rfl, hb8⟩; have T8 := Cells.below (L := [(⟨bx, 0, none⟩, .string xt), (⟨bx, 1, none⟩, .string xs), (⟨bx, 2, none⟩, .int .i64 xu)]) (by simp only [Cells]; go_keep) hb8; simp only [Cells] at T8; obtain ⟨p80, p81, p82, -⟩ := T8; have z8 : bx + 1 ≤ w8.heap.size := Nat.le_trans z7 hb8.size; have B8 : Hid (Below w.heap.size w w8) := B7.out.trans (hb8.mono B7.out.size); clear p70 p71 p72 z7 hb7)
          try (go_wp2_with fail)
          refine hK.out _ _ ?_ (fun hH2 => ?_)
          · (try dsimp only)
            go_keep
          clear hK K hH1
          try simp only [Act.put, List.setIfInBounds_toArray, List.set_cons_zero, List.set_cons_succ]
          refine wpAnyH_take (i := 25) (oi := { dst := some 48, op := Op.binOp BinOp.neq 4 (Operand.tmp 40) (Operand.tmp 47) 4, type := 4, pos := "laws.go:424", after := #[{ on := 17, ground := Ground.data }, { on := 24, ground := Ground.data }, { on := 10, ground := Ground.guard }], guard := some (10, true) }) (v := ?vb25) rfl (by kernel_rfl) (by kernel_rfl) (by kernel_rfl) (fun _ _ _ h => h) (Or.inl ⟨by rfl, ?hyb25⟩) (by assumption) ?restb25
          case hyb25 =>
            intro w hSw
            (try dsimp only at hSw)
            go_simp
            try with_reducible rfl
          try simp only [Act.put, List.setIfInBounds_toArray, List.set_cons_zero, List.set_cons_succ]
          refine wpAnyH_take (i := 26) (oi := { dst := some 49, op := Op.pick (Operand.tmp 33) (Operand.tmp 48) (Operand.const (Value.bool false)), type := 4, pos := "laws.go:424", after := #[{ on := 10, ground := Ground.data }, { on := 25, ground := Ground.data }], guard := none }) (v := ?vb26) rfl (by kernel_rfl) (by kernel_rfl) (by kernel_rfl) (fun _ _ _ h => h) (Or.inl ⟨by rfl, ?hyb26⟩) (by assumption) ?restb26
          case hyb26 =>
            intro w hSw
            (try dsimp only at hSw)
            go_simp
            try with_reducible rfl
          try simp only [Act.put, List.setIfInBounds_toArray, List.set_cons_zero, List.set_cons_succ]
          refine wpAnyH_done (by kernel_rfl) ?_ _
          go_wp2
          go_roundw
          case rel => exact ⟨k + 1, by omega, by go_num, B8.out⟩
          case measure => simp [intOf]; omega
        | true =>
          refine wp_region_held_drew (S := (fun w' => bx + 1 ≤ w'.heap.size ∧ w'.cell? ⟨bx, 0, none⟩ = some (.string xt) ∧ w'.cell? ⟨bx, 1, none⟩ = some (.string xs) ∧ w'.cell? ⟨bx, 2, none⟩ = some (.int .i64 xu))) (by kernel_rfl) ?_ (fun hH0 => ?_)
          · (try dsimp only)
            go_keep
          refine wpAnyH_take (i := 0) (oi := { dst := some 23, op := Op.fieldAddr 64 (Operand.tmp 12) 0, type := 0, pos := "laws.go:424", after := #[], guard := none }) (v := ?vc0) rfl (by kernel_rfl) (by kernel_rfl) (by kernel_rfl) (fun _ _ _ h => h) (Or.inl ⟨by rfl, ?hyc0⟩) (by assumption) ?restc0
          case hyc0 =>
            intro w hSw
            (try dsimp only at hSw)
            go_simp
            try with_reducible rfl
          try simp only [Act.put, List.setIfInBounds_toArray, List.set_cons_zero, List.set_cons_succ]
          refine wpAnyH_take (i := 1) (oi := { dst := some 24, op := Op.load 9 (Operand.tmp 23), type := 9, pos := "laws.go:424", after := #[{ on := 0, ground := Ground.data }], guard := none }) (v := ?vc1) rfl (by kernel_rfl) (by kernel_rfl) (by kernel_rfl) (fun _ _ _ h => h) (Or.inl ⟨by rfl, ?hyc1⟩) (by assumption) ?restc1
          case hyc1 =>
            intro w hSw
            (try dsimp only at hSw)
            go_simp
            try with_reducible rfl
          try simp only [Act.put, List.setIfInBounds_toArray, List.set_cons_zero, List.set_cons_succ]
          refine wpAnyH_take (i := 2) (oi := { dst := some 25, op := Op.move (Operand.tmp 2), type := 9, pos := "laws.go:424", after := #[], guard := none }) (v := ?vc2) rfl (by kernel_rfl) (by kernel_rfl) (by kernel_rfl) (fun _ _ _ h => h) (Or.inl ⟨by rfl, ?hyc2⟩) (by assumption) ?restc2
          case hyc2 =>
            intro w hSw
            (try dsimp only at hSw)
            go_simp
            try with_reducible rfl
          try simp only [Act.put, List.setIfInBounds_toArray, List.set_cons_zero, List.set_cons_succ]
          refine wpAnyH_take (i := 3) (oi := { dst := some 26, op := Op.binOp BinOp.neq 9 (Operand.tmp 24) (Operand.tmp 25) 9, type := 4, pos := "laws.go:424", after := #[{ on := 1, ground := Ground.data }, { on := 2, ground := Ground.data }], guard := none }) (v := ?vc3) rfl (by kernel_rfl) (by kernel_rfl) (by kernel_rfl) (fun _ _ _ h => h) (Or.inl ⟨by rfl, ?hyc3⟩) (by assumption) ?restc3
          case hyc3 =>
            intro w hSw
            (try dsimp only at hSw)
            go_simp
            try with_reducible rfl
          try simp only [Act.put, List.setIfInBounds_toArray, List.set_cons_zero, List.set_cons_succ]
          refine wpAnyH_take (i := 4) (oi := { dst := some 27, op := Op.move (Operand.tmp 26), type := 4, pos := "laws.go:424", after := #[{ on := 3, ground := Ground.data }], guard := none }) (v := ?vc4) rfl (by kernel_rfl) (by kernel_rfl) (by kernel_rfl) (fun _ _ _ h => h) (Or.inl ⟨by rfl, ?hyc4⟩) (by assumption) ?restc4
          case hyc4 =>
            intro w hSw
            (try dsimp only at hSw)
            go_simp
            try with_reducible rfl
          try simp only [Act.put, List.setIfInBounds_toArray, List.set_cons_zero, List.set_cons_succ]
          refine wpAnyH_take (i := 5) (oi := { dst := some 28, op := Op.fieldAddr 64 (Operand.tmp 12) 1, type := 0, pos := "laws.go:424", after := #[{ on := 4, ground := Ground.guard }], guard := some (4, false) }) (v := ?vc5) rfl (by kernel_rfl) (by kernel_rfl) (by kernel_rfl) (fun _ _ _ h => h) (Or.inl ⟨by rfl, ?hyc5⟩) (by assumption) ?restc5
          case hyc5 =>
            intro w hSw
            (try dsimp only at hSw)
            go_simp
            try with_reducible rfl
          try simp only [Act.put, List.setIfInBounds_toArray, List.set_cons_zero, List.set_cons_succ]
          refine wpAnyH_take (i := 6) (oi := { dst := some 29, op := Op.load 9 (Operand.tmp 28), type := 9, pos := "laws.go:424", after := #[{ on := 5, ground := Ground.data }, { on := 4, ground := Ground.guard }], guard := some (4, false) }) (v := ?vc6) rfl (by kernel_rfl) (by kernel_rfl) (by kernel_rfl) (fun _ _ _ h => h) (Or.inl ⟨by rfl, ?hyc6⟩) (by assumption) ?restc6
          case hyc6 =>
            intro w hSw
            (try dsimp only at hSw)
            go_simp
            try with_reducible rfl
          try simp only [Act.put, List.setIfInBounds_toArray, List.set_cons_zero, List.set_cons_succ]
          refine wpAnyH_take (i := 7) (oi := { dst := some 30, op := Op.move (Operand.tmp 3), type := 9, pos := "laws.go:424", after := #[{ on := 4, ground := Ground.guard }], guard := some (4, false) }) (v := ?vc7) rfl (by kernel_rfl) (by kernel_rfl) (by kernel_rfl) (fun _ _ _ h => h) (Or.inl ⟨by rfl, ?hyc7⟩) (by assumption) ?restc7
          case hyc7 =>
            intro w hSw
            (try dsimp only at hSw)
            go_simp
            try with_reducible rfl
          try simp only [Act.put, List.setIfInBounds_toArray, List.set_cons_zero, List.set_cons_succ]
          refine wpAnyH_take (i := 8) (oi := { dst := some 31, op := Op.binOp BinOp.neq 9 (Operand.tmp 29) (Operand.tmp 30) 9, type := 4, pos := "laws.go:424", after := #[{ on := 6, ground := Ground.data }, { on := 7, ground := Ground.data }, { on := 4, ground := Ground.guard }], guard := some (4, false) }) (v := ?vc8) rfl (by kernel_rfl) (by kernel_rfl) (by kernel_rfl) (fun _ _ _ h => h) (Or.inl ⟨by rfl, ?hyc8⟩) (by assumption) ?restc8
          case hyc8 =>
            intro w hSw
            (try dsimp only at hSw)
            go_simp
            try with_reducible rfl
          try simp only [Act.put, List.setIfInBounds_toArray, List.set_cons_zero, List.set_cons_succ]
          refine wpAnyH_take (i := 9) (oi := { dst := some 32, op := Op.pick (Operand.tmp 27) (Operand.const (Value.bool true)) (Operand.tmp 31), type := 4, pos := "laws.go:424", after := #[{ on := 4, ground := Ground.data }, { on := 8, ground := Ground.data }], guard := none }) (v := ?vc9) rfl (by kernel_rfl) (by kernel_rfl) (by kernel_rfl) (fun _ _ _ h => h) (Or.inl ⟨by rfl, ?hyc9⟩) (by assumption) ?restc9
          case hyc9 =>
            intro w hSw
            (try dsimp only at hSw)
            go_simp
            try with_reducible rfl
          try simp only [Act.put, List.setIfInBounds_toArray, List.set_cons_zero, List.set_cons_succ]
          refine wpAnyH_take (i := 10) (oi := { dst := some 33, op := Op.move (Operand.tmp 32), type := 4, pos := "laws.go:424", after := #[{ on := 9, ground := Ground.data }, { on := 4, ground := Ground.chain }], guard := none }) (v := ?vc10) rfl (by kernel_rfl) (by kernel_rfl) (by kernel_rfl) (fun _ _ _ h => h) (Or.inl ⟨by rfl, ?hyc10⟩) (by assumption) ?restc10
          case hyc10 =>
            intro w hSw
            (try dsimp only at hSw)
            go_simp
            try with_reducible rfl
          try simp only [Act.put, List.setIfInBounds_toArray, List.set_cons_zero, List.set_cons_succ]
          refine wpAnyH_take (i := 11) (oi := { dst := some 34, op := Op.move (Operand.tmp 0), type := 23, pos := "laws.go:424", after := #[{ on := 10, ground := Ground.guard }], guard := some (10, true) }) (v := undef) rfl (by kernel_rfl) (by kernel_rfl) (by kernel_rfl) (fun _ _ _ h => h) (Or.inr ⟨by rfl, rfl⟩) (by assumption) ?_
          try simp only [Act.put, List.setIfInBounds_toArray, List.set_cons_zero, List.set_cons_succ]
          refine wpAnyH_take (i := 12) (oi := { dst := some 35, op := Op.fieldAddr 64 (Operand.tmp 12) 0, type := 0, pos := "laws.go:424", after := #[{ on := 10, ground := Ground.guard }], guard := some (10, true) }) (v := undef) rfl (by kernel_rfl) (by kernel_rfl) (by kernel_rfl) (fun _ _ _ h => h) (Or.inr ⟨by rfl, rfl⟩) (by assumption) ?_
          try simp only [Act.put, List.setIfInBounds_toArray, List.set_cons_zero, List.set_cons_succ]
          refine wpAnyH_take (i := 13) (oi := { dst := some 36, op := Op.load 9 (Operand.tmp 35), type := 9, pos := "laws.go:424", after := #[{ on := 12, ground := Ground.data }, { on := 10, ground := Ground.guard }], guard := some (10, true) }) (v := undef) rfl (by kernel_rfl) (by kernel_rfl) (by kernel_rfl) (fun _ _ _ h => h) (Or.inr ⟨by rfl, rfl⟩) (by assumption) ?_
          try simp only [Act.put, List.setIfInBounds_toArray, List.set_cons_zero, List.set_cons_succ]
          refine wpAnyH_take (i := 14) (oi := { dst := some 37, op := Op.fieldAddr 64 (Operand.tmp 12) 1, type := 0, pos := "laws.go:424", after := #[{ on := 10, ground := Ground.guard }], guard := some (10, true) }) (v := undef) rfl (by kernel_rfl) (by kernel_rfl) (by kernel_rfl) (fun _ _ _ h => h) (Or.inr ⟨by rfl, rfl⟩) (by assumption) ?_
          try simp only [Act.put, List.setIfInBounds_toArray, List.set_cons_zero, List.set_cons_succ]
          refine wpAnyH_take (i := 15) (oi := { dst := some 38, op := Op.load 9 (Operand.tmp 37), type := 9, pos := "laws.go:424", after := #[{ on := 14, ground := Ground.data }, { on := 10, ground := Ground.guard }], guard := some (10, true) }) (v := undef) rfl (by kernel_rfl) (by kernel_rfl) (by kernel_rfl) (fun _ _ _ h => h) (Or.inr ⟨by rfl, rfl⟩) (by assumption) ?_
          try simp only [Act.put, List.setIfInBounds_toArray, List.set_cons_zero, List.set_cons_succ]
          refine wpAnyH_take (i := 16) (oi := { dst := some 39, op := Op.move (Operand.tmp 4), type := 2, pos := "laws.go:424", after := #[{ on := 10, ground := Ground.guard }], guard := some (10, true) }) (v := undef) rfl (by kernel_rfl) (by kernel_rfl) (by kernel_rfl) (fun _ _ _ h => h) (Or.inr ⟨by rfl, rfl⟩) (by assumption) ?_
          try simp only [Act.put, List.setIfInBounds_toArray, List.set_cons_zero, List.set_cons_succ]
          refine wpAnyH_take (i := 17) (oi := { dst := some 40, op := Op.call { callee := Callee.value (Operand.func 24), args := #[Operand.tmp 34, Operand.tmp 36, Operand.tmp 38, Operand.tmp 39], argTypes := #[23, 9, 9, 2] }, type := 4, pos := "laws.go:424", after := #[{ on := 11, ground := Ground.data }, { on := 13, ground := Ground.data }, { on := 15, ground := Ground.data }, { on := 16, ground := Ground.data }, { on := 10, ground := Ground.chain }, { on := 10, ground := Ground.guard }], guard := some (10, true) }) (v := undef) rfl (by kernel_rfl) (by kernel_rfl) (by kernel_rfl) (fun _ _ _ h => h) (Or.inr ⟨by rfl, rfl⟩) (by assumption) ?_
          try simp only [Act.put, List.setIfInBounds_toArray, List.set_cons_zero, List.set_cons_succ]
          refine wpAnyH_take (i := 18) (oi := { dst := some 41, op := Op.move (Operand.tmp 1), type := 23, pos := "laws.go:424", after := #[{ on := 10, ground := Ground.guard }], guard := some (10, true) }) (v := undef) rfl (by kernel_rfl) (by kernel_rfl) (by kernel_rfl) (fun _ _ _ h => h) (Or.inr ⟨by rfl, rfl⟩) (by assumption) ?_
          try simp only [Act.put, List.setIfInBounds_toArray, List.set_cons_zero, List.set_cons_succ]
          refine wpAnyH_take (i := 19) (oi := { dst := some 42, op := Op.fieldAddr 64 (Operand.tmp 12) 0, type := 0, pos := "laws.go:424", after := #[{ on := 10, ground := Ground.guard }], guard := some (10, true) }) (v := undef) rfl (by kernel_rfl) (by kernel_rfl) (by kernel_rfl) (fun _ _ _ h => h) (Or.inr ⟨by rfl, rfl⟩) (by assumption) ?_
          try simp only [Act.put, List.setIfInBounds_toArray, List.set_cons_zero, List.set_cons_succ]
          refine wpAnyH_take (i := 20) (oi := { dst := some 43, op := Op.load 9 (Operand.tmp 42), type := 9, pos := "laws.go:424", after := #[{ on := 19, ground := Ground.data }, { on := 10, ground := Ground.guard }], guard := some (10, true) }) (v := undef) rfl (by kernel_rfl) (by kernel_rfl) (by kernel_rfl) (fun _ _ _ h => h) (Or.inr ⟨by rfl, rfl⟩) (by assumption) ?_
          try simp only [Act.put, List.setIfInBounds_toArray, List.set_cons_zero, List.set_cons_succ]
          refine wpAnyH_take (i := 21) (oi := { dst := some 44, op := Op.fieldAddr 64 (Operand.tmp 12) 1, type := 0, pos := "laws.go:424", after := #[{ on := 10, ground := Ground.guard }], guard := some (10, true) }) (v := undef) rfl (by kernel_rfl) (by kernel_rfl) (by kernel_rfl) (fun _ _ _ h => h) (Or.inr ⟨by rfl, rfl⟩) (by assumption) ?_
          try simp only [Act.put, List.setIfInBounds_toArray, List.set_cons_zero, List.set_cons_succ]
          refine wpAnyH_take (i := 22) (oi := { dst := some 45, op := Op.load 9 (Operand.tmp 44), type := 9, pos := "laws.go:424", after := #[{ on := 21, ground := Ground.data }, { on := 10, ground := Ground.guard }], guard := some (10, true) }) (v := undef) rfl (by kernel_rfl) (by kernel_rfl) (by kernel_rfl) (fun _ _ _ h => h) (Or.inr ⟨by rfl, rfl⟩) (by assumption) ?_
          try simp only [Act.put, List.setIfInBounds_toArray, List.set_cons_zero, List.set_cons_succ]
          refine wpAnyH_take (i := 23) (oi := { dst := some 46, op := Op.move (Operand.tmp 4), type := 2, pos := "laws.go:424", after := #[{ on := 10, ground := Ground.guard }], guard := some (10, true) }) (v := undef) rfl (by kernel_rfl) (by kernel_rfl) (by kernel_rfl) (fun _ _ _ h => h) (Or.inr ⟨by rfl, rfl⟩) (by assumption) ?_
          try simp only [Act.put, List.setIfInBounds_toArray, List.set_cons_zero, List.set_cons_succ]
          refine wpAnyH_take (i := 24) (oi := { dst := some 47, op := Op.call { callee := Callee.value (Operand.func 24), args := #[Operand.tmp 41, Operand.tmp 43, Operand.tmp 45, Operand.tmp 46], argTypes := #[23, 9, 9, 2] }, type := 4, pos := "laws.go:424", after := #[{ on := 18, ground := Ground.data }, { on := 20, ground := Ground.data }, { on := 22, ground := Ground.data }, { on := 23, ground := Ground.data }, { on := 17, ground := Ground.chain }, { on := 10, ground := Ground.guard }], guard := some (10, true) }) (v := undef) rfl (by kernel_rfl) (by kernel_rfl) (by kernel_rfl) (fun _ _ _ h => h) (Or.inr ⟨by rfl, rfl⟩) (by assumption) ?_
          try simp only [Act.put, List.setIfInBounds_toArray, List.set_cons_zero, List.set_cons_succ]
          refine wpAnyH_take (i := 25) (oi := { dst := some 48, op := Op.binOp BinOp.neq 4 (Operand.tmp 40) (Operand.tmp 47) 4, type := 4, pos := "laws.go:424", after := #[{ on := 17, ground := Ground.data }, { on := 24, ground := Ground.data }, { on := 10, ground := Ground.guard }], guard := some (10, true) }) (v := undef) rfl (by kernel_rfl) (by kernel_rfl) (by kernel_rfl) (fun _ _ _ h => h) (Or.inr ⟨by rfl, rfl⟩) (by assumption) ?_
          try simp only [Act.put, List.setIfInBounds_toArray, List.set_cons_zero, List.set_cons_succ]
          refine wpAnyH_take (i := 26) (oi := { dst := some 49, op := Op.pick (Operand.tmp 33) (Operand.tmp 48) (Operand.const (Value.bool false)), type := 4, pos := "laws.go:424", after := #[{ on := 10, ground := Ground.data }, { on := 25, ground := Ground.data }], guard := none }) (v := ?vc26) rfl (by kernel_rfl) (by kernel_rfl) (by kernel_rfl) (fun _ _ _ h => h) (Or.inl ⟨by rfl, ?hyc26⟩) (by assumption) ?restc26
          case hyc26 =>
            intro w hSw
            (try dsimp only at hSw)
            go_simp
            try with_reducible rfl
          try simp only [Act.put, List.setIfInBounds_toArray, List.set_cons_zero, List.set_cons_succ]
          refine wpAnyH_done (by kernel_rfl) ?_ _
          go_wp2
          go_roundw
          case rel => exact ⟨k + 1, by omega, by go_num, B6.out.trans (Below.drew (Below.refl _ _))⟩
          case measure => simp [intOf]; omega
    · go_wp2
      go_ret
      exact ⟨rfl, HB.out⟩
end Go.Proofs.Ytecaeolgheefmaa
