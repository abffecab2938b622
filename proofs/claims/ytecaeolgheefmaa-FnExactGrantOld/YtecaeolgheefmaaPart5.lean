/- 9 of this claim's texts, one behind the other. -/
import Derived.Test.YtecaeolgheefmaaPart1
import Derived.Test.YtecaeolgheefmaaPart4
import Derived.Deep.RegionHeld3
import Derived.Deep.DeepCutAuto
import Derived.Laws.ResultCell
import Derived.Test.YtecaeolgheefmaaPart3
/- The walks of the library's IndexFunc, ContainsFunc and DeleteFunc at grants, over the program's predicates. Written by delfunc.py. -/
namespace Go.Proofs.Ytecaeolgheefmaa
open Go.RowKit

theorem any_yes {p : Gr → Bool} {L : List Gr} {k : Nat} (hk : k < L.length) (h : p (atG L k) = true) : L.any p = true :=
  List.any_eq_true.2 ⟨atG L k, by rw [atG_get hk]; exact List.getElem_mem hk, h⟩
theorem any_no {p : Gr → Bool} {L : List Gr} (h : ∀ j, j < L.length → p (atG L j) = false) : L.any p = false := by
  refine List.any_eq_false.2 fun x hx => ?_
  obtain ⟨j, hj, rfl⟩ := List.mem_iff_getElem.1 hx
  have := h j hj
  rw [atG_get hj] at this
  rw [this]; decide
theorem keep_same {p : Gr → Bool} {L : List Gr} {k : Nat} (hk : k ≤ L.length) (h : ∀ j, j < k → p (atG L j) = true) : keepG p L k = L.take k := by
  unfold keepG
  rw [List.filter_eq_self]
  intro x hx
  obtain ⟨j, hj, rfl⟩ := List.mem_iff_getElem.1 hx
  have h1 : j < k := by rw [List.length_take] at hj; omega
  have := h j h1
  rw [atG_get (by omega)] at this
  rw [List.getElem_take]; exact this
theorem atG_take {L : List Gr} {k j : Nat} (hk : k ≤ L.length) (hj : j < k) : atG (L.take k) j = atG L j := by
  rw [atG_get (by rw [List.length_take]; omega), atG_get (by omega), List.getElem_take]
theorem atG_snoc {L : List Gr} {x : Gr} {j : Nat} : atG (L ++ [x]) j = if j < L.length then atG L j else if j = L.length then x else grNone := by
  unfold atG
  rw [List.getD_eq_getElem?_getD, List.getD_eq_getElem?_getD]
  by_cases h : j < L.length
  · rw [if_pos h, List.getElem?_append_left h]
  · rw [if_neg h, List.getElem?_append_right (by omega)]
    by_cases e : j = L.length
    · rw [if_pos e, e]; simp
    · rw [if_neg e, List.getElem?_eq_none (by simp; omega)]; rfl
set_option maxRecDepth 10000 in
set_option maxHeartbeats 4000000 in
theorem indexOld_any (now : Int) (q : Option Addr) (cap B : Nat) (L : List Gr) (w : World) (hs : SliceG w B (.slice q L.length cap) L) (hn : L.length ≤ 1048576)
    (KP : ∀ (c : Gr) (W : World), Below w.heap.size w W → Calls Try.prog 45 #[.int .i64 now, grV c] W fun e w' => e = .returned (.bool ((fun g => !(liveG now g)) c)) ∧ Below W.heap.size W w') :
    Calls Try.prog 73 #[.slice q L.length cap, .func (.func 45) #[.int .i64 now] #[]] w fun e w' => ((∃ k, k < L.length ∧ e = .returned (.int .i64 (k : Nat)) ∧ (fun g => !(liveG now g)) (atG L k) = true ∧ ∀ j, j < k → (fun g => !(liveG now g)) (atG L j) = false) ∨ (e = .returned (.int .i64 (-1)) ∧ ∀ j, j < L.length → (fun g => !(liveG now g)) (atG L j) = false)) ∧ Below w.heap.size w w' := by
  obtain ⟨⟨q', cap', e1, hg⟩, -⟩ := hs
  injection e1 with e1 _ e3
  subst e1 e3
  have HG : Hid (0 < L.length → ∃ g, q = some ⟨g, 0, none⟩ ∧ g < w.heap.size ∧ ∀ j, j < L.length → ∀ o, o < 3 → w.cell? ⟨g, j * 3 + o, none⟩ = some (grC (atG L j) o)) := fun h0 => by
    obtain ⟨g, e, -, hgw, hc⟩ := hg h0
    exact ⟨g, e, hgw, fun j hj o ho => (hc j hj o ho).1⟩
  have KH : Hid (∀ (c : Gr) (W : World), Below w.heap.size w W → Calls Try.prog 45 #[.int .i64 now, grV c] W fun e w' => e = .returned (.bool ((fun g => !(liveG now g)) c)) ∧ Below W.heap.size W w') := KP
  clear hg KP
  generalize hpp : (fun g => !(liveG now g)) = pr at *
  clear hpp
  go_enter Try.func73, Try.ntmps73
  go_wp2
  go_loopw [8] (fun i wr => ∃ j : Nat, j ≤ L.length ∧ i = .int .i64 j ∧ Hid (Below w.heap.size w wr) ∧ Hid (∀ i', i' < j → pr (atG L i') = false)) (fun i _ => L.length - (intOf i).toNat)
  case atStart => exact ⟨0, Nat.zero_le _, rfl, Below.refl _ _, fun j hj => absurd hj (by omega)⟩
  case round =>
    obtain ⟨j, hj, rfl, HB, HR⟩ := hrel
    by_cases hlt : j < L.length
    · obtain ⟨g, rfl, hgw, hc⟩ := HG.out (by omega)
      have j0 : (0 : Int) ≤ j := by omega
      have j1 : (j : Int) < L.length := by omega
      have HN1 : Hid (pr (atG L j) = false → ∀ i', i' < j + 1 → pr (atG L i') = false) := fun e i' hi' => by
        by_cases e2 : i' = j
        · subst e2; exact e
        · exact HR.out i' (by omega)
      have HS0 : Hid (∀ W, Below w.heap.size w W → Calls Try.prog 45 #[.int .i64 now, .agg #[.string (atG L j).tp, .string (atG L j).si, .int .i64 (atG L j).un]] W fun e w' => e = .returned (.bool (pr (atG L j))) ∧ Below W.heap.size W w') := fun W h => KH.out (atG L j) W h
      have c0 : wr.cell? ⟨g, j * 3, none⟩ = some (.string (atG L j).tp) := by rw [(bcell HB.out).1 _ _ hgw]; exact hc j hlt 0 (by omega)
      have c1 : wr.cell? ⟨g, j * 3 + 1, none⟩ = some (.string (atG L j).si) := by rw [(bcell HB.out).1 _ _ hgw]; exact hc j hlt 1 (by omega)
      have c2 : wr.cell? ⟨g, j * 3 + 2, none⟩ = some (.int .i64 (atG L j).un) := by rw [(bcell HB.out).1 _ _ hgw]; exact hc j hlt 2 (by omega)
      have HBA : Hid (∀ o, Below w.heap.size w (wr.alloc o)) := fun o => HB.out.alloc HB.out.size _
      clear hc KH
      generalize hsm : pr (atG L j) = sm at *
      have HSM : Hid (pr (atG L j) = sm) := hsm
      clear hsm
      have HKK : Hid (∀ i', i' < j → pr (atG L i') = false) := HR.out
      generalize hyy : atG L j = y at *
      obtain ⟨tp', si', un'⟩ := y
      dsimp only at *
      go_wp2_with fail
      refine (HS0.out _ (by first | exact HB.out | exact HBA.out _)).mono ?_
      rintro e w2 ⟨rfl, hb2⟩
      have B2 : Hid (Below w.heap.size w w2) := by first | exact HB.out.trans (hb2.mono HB.out.size) | exact (HBA.out _).trans (hb2.mono (HBA.out _).size)
      clear hb2
      cases sm with
      | true =>
        go_wp2
        go_ret
        exact ⟨.inl ⟨j, hlt, rfl, by rw [hyy]; exact HSM.out, HKK.out⟩, B2.out⟩
      | false =>
        have HN2 : Hid (∀ i', i' < j + 1 → pr (atG L i') = false) := HN1.out rfl
        go_wp2
        go_roundw
        case rel => exact ⟨j + 1, by omega, by go_num, B2, HN2⟩
        case measure => simp [intOf]; omega
    · go_wp2
      go_ret
      exact ⟨.inr ⟨rfl, fun i hi => HR.out i (by omega)⟩, HB.out⟩
set_option maxRecDepth 10000 in
set_option maxHeartbeats 8000000 in
theorem deleteOld_any (now : Int) (v : Value) (B : Nat) (L : List Gr) (w : World) (hs : SliceG w B v L) (hB : B ≤ w.heap.size) (hn : L.length ≤ 1000)
    (KP : ∀ (c : Gr) (W : World), Below B w W → Calls Try.prog 45 #[.int .i64 now, grV c] W fun e w' => e = .returned (.bool ((fun g => !(liveG now g)) c)) ∧ Below W.heap.size W w') :
    Calls Try.prog 41 #[v, .func (.func 45) #[.int .i64 now] #[]] w fun e w' => ∃ v', e = .returned v' ∧ SliceG w' B v' (L.filter (fun g => !((fun g => !(liveG now g)) g))) ∧ Below B w w' := by
  have HSg : Hid (SliceG w B v L) := hs
  obtain ⟨⟨q, cap, rfl, hg⟩, q2, cap2, e2, hcap, hqn⟩ := hs
  injection e2 with e3 _ e4
  subst e3 e4
  have KI : Hid (Calls Try.prog 73 #[.slice q L.length cap, .func (.func 45) #[.int .i64 now] #[]] w fun e w' => ((∃ k, k < L.length ∧ e = .returned (.int .i64 (k : Nat)) ∧ (fun g => !(liveG now g)) (atG L k) = true ∧ ∀ j, j < k → (fun g => !(liveG now g)) (atG L j) = false) ∨ (e = .returned (.int .i64 (-1)) ∧ ∀ j, j < L.length → (fun g => !(liveG now g)) (atG L j) = false)) ∧ Below w.heap.size w w') := indexOld_any now q cap B L w HSg.out (by omega) (fun c W h => KP c W (h.mono hB))
  have KH : Hid (∀ (c : Gr) (W : World), Below B w W → Calls Try.prog 45 #[.int .i64 now, grV c] W fun e w' => e = .returned (.bool ((fun g => !(liveG now g)) c)) ∧ Below W.heap.size W w') := KP
  have HGr : Hid (0 < L.length → ∃ g, q = some ⟨g, 0, none⟩ ∧ B ≤ g ∧ g < w.heap.size) := fun h0 => by
    obtain ⟨g, e, h1, h2, -⟩ := hg h0
    exact ⟨g, e, h1, h2⟩
  have HAll : Hid ((∀ j, j < L.length → (fun g => !(liveG now g)) (atG L j) = false) → L.filter (fun g => !((fun g => !(liveG now g)) g)) = L) := fun h => by
    refine List.filter_eq_self.2 fun x hx => ?_
    obtain ⟨j, hj, rfl⟩ := List.mem_iff_getElem.1 hx
    have := h j hj
    rw [atG_get hj] at this
    show (!_) = true
    rw [this]; rfl
  have HFil : Hid (keepG (fun g => !((fun g => !(liveG now g)) g)) L L.length = L.filter (fun g => !((fun g => !(liveG now g)) g))) := keepG_all _ L
  have HYs : Hid (∀ k, k < L.length → (fun g => !(liveG now g)) (atG L k) = false → keepG (fun g => !((fun g => !(liveG now g)) g)) L (k + 1) = keepG (fun g => !((fun g => !(liveG now g)) g)) L k ++ [atG L k]) := fun k hk h => keepG_yes hk (by show (!_) = true; rw [h]; rfl)
  have HNs : Hid (∀ k, k < L.length → (fun g => !(liveG now g)) (atG L k) = true → keepG (fun g => !((fun g => !(liveG now g)) g)) L (k + 1) = keepG (fun g => !((fun g => !(liveG now g)) g)) L k) := fun k hk h => keepG_no hk (by show (!_) = false; rw [h]; rfl)
  have HFirst : Hid (∀ k, k < L.length → (fun g => !(liveG now g)) (atG L k) = true → (∀ j, j < k → (fun g => !(liveG now g)) (atG L j) = false) → keepG (fun g => !((fun g => !(liveG now g)) g)) L (k + 1) = L.take k) := fun k hk h h2 => by
    rw [keepG_no hk (by show (!_) = false; rw [h]; rfl)]
    exact keep_same (by omega) (fun j hj => by show (!_) = true; rw [h2 j hj]; rfl)
  clear hg KP
  generalize L.filter (fun g => !((fun g => !(liveG now g)) g)) = Z at *
  generalize hpk : keepG (fun g => !((fun g => !(liveG now g)) g)) = kp at *
  clear hpk
  generalize hpp : (fun g => !(liveG now g)) = pr at *
  clear hpp
  go_enter Try.func41, Try.ntmps41
  go_wp2_with fail
  refine KI.out.mono ?_
  rintro e w1 ⟨⟨k, hk, rfl, hp, hbf⟩ | ⟨rfl, hp⟩, hb1⟩
  · obtain ⟨g, rfl, hBg, hgw⟩ := HGr.out (by omega)
    have hkeep : kp L (k + 1) = L.take k := HFirst.out k hk hp hbf
    have S1 : Hid (SliceR w1 B 3 (.slice (some ⟨g, 0, none⟩) L.length cap) L.length (fun j o => grC (atG L j) o)) := (HSg.out.1).below hb1
    have hgw1 : g < w1.heap.size := Nat.lt_of_lt_of_le hgw hb1.size
    have B1 : Hid (Below B w w1) := hb1.mono hB
    have HSt : Hid (∃ cur : Nat → Gr, SliceR w1 B 3 (.slice (some ⟨g, 0, none⟩) L.length cap) L.length (fun j o => grC (cur j) o) ∧ (∀ t, t < k → cur t = atG (kp L (k + 1)) t) ∧ ∀ t, k + 1 ≤ t → t < L.length → cur t = atG L t) := ⟨atG L, S1.out, fun t ht => by rw [hkeep, atG_take (by omega) ht], fun t _ _ => rfl⟩
    have hkl : (kp L (k + 1)).length = k := by rw [hkeep, List.length_take]; omega
    have qk : ((k : Int) == -1) = false := beq_eq_false_iff_ne.2 (by omega)
    clear hb1 hp hbf KI HSg S1 HFirst HAll HGr hkeep
    go_wp2
    go_loopw [5, 6] (fun i j wr => ∃ ii jj : Nat, i = .int .i64 ii ∧ j = .int .i64 jj ∧ ii < jj ∧ jj ≤ L.length ∧ (kp L jj).length = ii ∧ g < wr.heap.size ∧ Hid (∃ cur : Nat → Gr, SliceR wr B 3 (.slice (some ⟨g, 0, none⟩) L.length cap) L.length (fun j o => grC (cur j) o) ∧ (∀ t, t < ii → cur t = atG (kp L jj) t) ∧ ∀ t, jj ≤ t → t < L.length → cur t = atG L t) ∧ Hid (Below B w wr)) (fun _ j _ => L.length - (intOf j).toNat)
    case atStart => exact ⟨k, k + 1, rfl, by first | rfl | go_num, by omega, by omega, hkl, hgw1, HSt, B1⟩
    case round =>
      obtain ⟨ii, jj, rfl, rfl, hij, hjl, hlen, hgr, HC, HB⟩ := hrel
      clear HSt B1 hkl hgw1 qk
      by_cases hlt : jj < L.length
      · obtain ⟨cur, hcs, hc1, hc2⟩ := HC.out
        have j0 : (0 : Int) ≤ jj := by omega
        have j1 : (jj : Int) < L.length := by omega
        have i0 : (0 : Int) ≤ ii := by omega
        have i1 : (ii : Int) < L.length := by omega
        have hcell : ∀ t, t < L.length → ∀ o, o < 3 → wr.cell? ⟨g, t * 3 + o, none⟩ = some (grC (cur t) o) ∧ wr.frozen? ⟨g, t * 3 + o, none⟩ = false := by
          obtain ⟨p', c', e', hh⟩ := hcs
          injection e' with e1'
          obtain ⟨g', e2', -, -, hc⟩ := hh (by omega)
          rw [e2'] at e1'
          injection e1' with e1'
          injection e1' with e1'
          subst e1'
          exact hc
        have hcj := hc2 jj (Nat.le_refl _) hlt
        have HCell : Hid (∀ t, t < L.length → ∀ o, o < 3 → wr.cell? ⟨g, t * 3 + o, none⟩ = some (grC (cur t) o) ∧ wr.frozen? ⟨g, t * 3 + o, none⟩ = false) := hcell
        have c0 : wr.cell? ⟨g, jj * 3, none⟩ = some (.string (atG L jj).tp) := by rw [← hcj]; exact (hcell jj hlt 0 (by omega)).1
        have c1 : wr.cell? ⟨g, jj * 3 + 1, none⟩ = some (.string (atG L jj).si) := by rw [← hcj]; exact (hcell jj hlt 1 (by omega)).1
        have c2 : wr.cell? ⟨g, jj * 3 + 2, none⟩ = some (.int .i64 (atG L jj).un) := by rw [← hcj]; exact (hcell jj hlt 2 (by omega)).1
        have HS0 : Hid (∀ W, Below B w W → Calls Try.prog 45 #[.int .i64 now, .agg #[.string (atG L jj).tp, .string (atG L jj).si, .int .i64 (atG L jj).un]] W fun e w' => e = .returned (.bool (pr (atG L jj))) ∧ Below W.heap.size W w') := fun W h => KH.out (atG L jj) W h
        have HBA : Hid (∀ o, Below wr.heap.size wr (wr.alloc o)) := fun o => (Below.refl _ _).alloc (Nat.le_refl _) _
        have HBW : Hid (∀ W, Below wr.heap.size wr W → Below B w W) := fun W h => HB.out.trans (h.mono (Nat.le_trans hB HB.out.size))
        have HCS : Hid (SliceR wr B 3 (.slice (some ⟨g, 0, none⟩) L.length cap) L.length (fun j o => grC (cur j) o)) := hcs
        have HC1 : Hid (∀ t, t < ii → cur t = atG (kp L jj) t) := hc1
        have HC2 : Hid (∀ t, jj ≤ t → t < L.length → cur t = atG L t) := hc2
        have HY1 : Hid (pr (atG L jj) = false → kp L (jj + 1) = kp L jj ++ [atG L jj]) := HYs.out jj hlt
        have HN1 : Hid (pr (atG L jj) = true → kp L (jj + 1) = kp L jj) := HNs.out jj hlt
        clear hcell hcs hc1 hc2 hcj HC KH HYs HNs
        generalize hsm : pr (atG L jj) = sm at *
        clear hsm
        generalize hyy : atG L jj = y at *
        obtain ⟨tp', si', un'⟩ := y
        dsimp only at *
        obtain ⟨W0, hW⟩ : ∃ W0, W0 = wr.alloc (.cells #[.string tp', .string si', .int .i64 un'] 64) := ⟨_, rfl⟩
        have hW0 : Hid (W0 = wr.alloc (.cells #[.string tp', .string si', .int .i64 un'] 64)) := hW
        have HBr : Hid (Below wr.heap.size wr W0) := by show Below _ _ _; rw [hW]; exact (Below.refl _ _).alloc (Nat.le_refl _) _
        have n0 : W0.cell? ⟨wr.heap.size, 0, none⟩ = some (.string tp') := by rw [hW]; simp
        have n1 : W0.cell? ⟨wr.heap.size, 1, none⟩ = some (.string si') := by rw [hW]; simp
        have n2 : W0.cell? ⟨wr.heap.size, 2, none⟩ = some (.int .i64 un') := by rw [hW]; simp
        have hbW : wr.heap.size < W0.heap.size := by rw [hW]; simp
        clear hW HBA
        go_upto_region 8 with fail
        rw [← hW0.out]
        clear hW0
        generalize hbb : wr.heap.size = bx at *
        go_wp2_with fail
        refine (HS0.out _ (HBW.out _ HBr.out)).mono ?_
        rintro e w2 ⟨rfl, hb2⟩
        have A2 : Hid (Below bx wr w2) := HBr.out.trans (hb2.mono (Nat.le_of_lt hbW))
        have x0 : w2.cell? ⟨bx, 0, none⟩ = some (.string tp') := ((bcell hb2).1 _ _ hbW).trans n0
        have x1 : w2.cell? ⟨bx, 1, none⟩ = some (.string si') := ((bcell hb2).1 _ _ hbW).trans n1
        have x2 : w2.cell? ⟨bx, 2, none⟩ = some (.int .i64 un') := ((bcell hb2).1 _ _ hbW).trans n2
        have B2 : Hid (Below B w w2) := HBW.out _ A2.out
        have hg2 : g < w2.heap.size := Nat.lt_of_lt_of_le (by rw [hbb]; exact hgr) A2.out.size
        have S2 : Hid (SliceR w2 B 3 (.slice (some ⟨g, 0, none⟩) L.length cap) L.length (fun j o => grC (cur j) o)) := SliceR.below HCS.out (by rw [hbb]; exact A2.out)
        cases sm with
        | true =>
          have hkp := HN1.out rfl
          have HC3 : Hid (∃ cur : Nat → Gr, SliceR w2 B 3 (.slice (some ⟨g, 0, none⟩) L.length cap) L.length (fun j o => grC (cur j) o) ∧ (∀ t, t < ii → cur t = atG (kp L (jj + 1)) t) ∧ ∀ t, jj + 1 ≤ t → t < L.length → cur t = atG L t) := ⟨cur, S2.out, fun t ht => by rw [hkp]; exact HC1.out t ht, fun t h1 h2 => HC2.out t (by omega) h2⟩
          have hlen2 : (kp L (jj + 1)).length = ii := by rw [hkp]; exact hlen
          clear hb2 hkp n0 n1 n2 x0 x1 x2
          go_wp2
          go_roundw
          case rel => exact ⟨ii, jj + 1, rfl, by go_num, by omega, by omega, hlen2, hg2, HC3, B2⟩
          case measure => simp [intOf]; omega
        | false =>
          have hkp := HY1.out rfl
          have hlen2 : (kp L (jj + 1)).length = ii + 1 := by rw [hkp, List.length_append, hlen]; rfl
          obtain ⟨f0, z0⟩ : w2.cell? ⟨g, ii * 3, none⟩ = some (.string (cur ii).tp) ∧ w2.frozen? ⟨g, ii * 3, none⟩ = false := ⟨(A2.out.cell (p := ⟨g, _, none⟩) hgr).trans (HCell.out ii (by omega) 0 (by omega)).1, (A2.out.frozen (p := ⟨g, _, none⟩) hgr).trans (HCell.out ii (by omega) 0 (by omega)).2⟩
          obtain ⟨f1, z1⟩ : w2.cell? ⟨g, ii * 3 + 1, none⟩ = some (.string (cur ii).si) ∧ w2.frozen? ⟨g, ii * 3 + 1, none⟩ = false := ⟨(A2.out.cell (p := ⟨g, _, none⟩) hgr).trans (HCell.out ii (by omega) 1 (by omega)).1, (A2.out.frozen (p := ⟨g, _, none⟩) hgr).trans (HCell.out ii (by omega) 1 (by omega)).2⟩
          obtain ⟨f2, z2⟩ : w2.cell? ⟨g, ii * 3 + 2, none⟩ = some (.int .i64 (cur ii).un) ∧ w2.frozen? ⟨g, ii * 3 + 2, none⟩ = false := ⟨(A2.out.cell (p := ⟨g, _, none⟩) hgr).trans (HCell.out ii (by omega) 2 (by omega)).1, (A2.out.frozen (p := ⟨g, _, none⟩) hgr).trans (HCell.out ii (by omega) 2 (by omega)).2⟩
          have HC3 : Hid (∃ cur : Nat → Gr, SliceR (((w2.setCell ⟨g, ii * 3, none⟩ (.string tp')).setCell ⟨g, ii * 3 + 1, none⟩ (.string si')).setCell ⟨g, ii * 3 + 2, none⟩ (.int .i64 un')) B 3 (.slice (some ⟨g, 0, none⟩) L.length cap) L.length (fun j o => grC (cur j) o) ∧ (∀ t, t < ii + 1 → cur t = atG (kp L (jj + 1)) t) ∧ ∀ t, jj + 1 ≤ t → t < L.length → cur t = atG L t) := by
            refine ⟨fun t => if t = ii then ⟨tp', si', un'⟩ else cur t, SliceR.congr (SliceR.putGr S2.out ii (by omega) ⟨tp', si', un'⟩) (fun j hj o ho => ?_), fun t ht => ?_, fun t h1 h2 => ?_⟩
            · by_cases e : j = ii
              · simp only [if_pos e]
              · simp only [if_neg e]
            · rw [hkp, atG_snoc, hlen]
              by_cases e : t = ii
              · simp only [if_pos e]; rw [if_neg (by omega)]
              · simp only [if_neg e]; rw [if_pos (by omega)]; exact HC1.out t (by omega)
            · simp only [if_neg (show ¬ t = ii by omega)]; exact HC2.out t (by omega) h2
          have B3 : Hid (Below B w (((w2.setCell ⟨g, ii * 3, none⟩ (.string tp')).setCell ⟨g, ii * 3 + 1, none⟩ (.string si')).setCell ⟨g, ii * 3 + 2, none⟩ (.int .i64 un'))) := ((B2.out.setCell hBg _).setCell hBg _).setCell hBg _
          have hg3 : g < (((w2.setCell ⟨g, ii * 3, none⟩ (.string tp')).setCell ⟨g, ii * 3 + 1, none⟩ (.string si')).setCell ⟨g, ii * 3 + 2, none⟩ (.int .i64 un')).heap.size := by simpa using hg2
          generalize (cur ii).tp = o0 at *
          generalize (cur ii).si = o1 at *
          generalize (cur ii).un = o2 at *
          clear hb2 hkp c0 c1 c2 HCell HCS n0 n1 n2
          go_wp2
          go_roundw
          case rel => exact ⟨ii + 1, jj + 1, by go_num, by go_num, by omega, by omega, hlen2, hg3, HC3, B3⟩
          case measure => simp [intOf]; omega
      · obtain rfl : jj = L.length := by omega
        obtain ⟨cur, hcs, hc1, -⟩ := HC.out
        have hcell : ∀ t, t < L.length → ∀ o, o < 3 → wr.cell? ⟨g, t * 3 + o, none⟩ = some (grC (cur t) o) ∧ wr.frozen? ⟨g, t * 3 + o, none⟩ = false := by
          obtain ⟨p', c', e', hh⟩ := hcs
          injection e' with e1'
          obtain ⟨g', e2', -, -, hc⟩ := hh (by omega)
          rw [e2'] at e1'
          injection e1' with e1'
          injection e1' with e1'
          subst e1'
          exact hc
        have hcl : ∀ ty, (Builtin.clear_ #[23] ty #[.slice (some ⟨g, ii * 3, none⟩) (L.length - ii) (cap - ii)]).run Try.prog wr = .ok (.tuple #[]) (wr.setCells g (ii * 3) (Builtin.zeroCells (Value.agg #[.string ⟨#[]⟩, .string ⟨#[]⟩, .int .i64 0]).cells (L.length - ii)).toList) := fun ty => by
          refine run_clear_cells wr _ 64 ty (.agg #[.string ⟨#[]⟩, .string ⟨#[]⟩, .int .i64 0]) Try.underlying23 (fun W => Try.zeroValue64 W) g (ii * 3) _ _ (by omega) ?_ ?_ ?_
          · intro v hv
            simp only [Builtin.zeroCells, Value.cells, Array.toList_map, List.mem_map] at hv
            obtain ⟨i, -, rfl⟩ := hv
            have hm : i % 3 = 0 ∨ i % 3 = 1 ∨ i % 3 = 2 := by omega
            rcases hm with e | e | e <;> simp [e, Value.oneCell']
          · intro j hj
            rw [zeroCells_len] at hj
            simp only [Value.cells] at hj
            have hj2 : j < (L.length - ii) * 3 := hj
            have := (hcell (ii + j / 3) (by omega) (j % 3) (Nat.mod_lt _ (by decide))).1
            rw [show ii * 3 + j = (ii + j / 3) * 3 + j % 3 by omega, this]; rfl
          · intro j hj
            rw [zeroCells_len] at hj
            simp only [Value.cells] at hj
            have hj2 : j < (L.length - ii) * 3 := hj
            have := (hcell (ii + j / 3) (by omega) (j % 3) (Nat.mod_lt _ (by decide))).2
            rw [show ii * 3 + j = (ii + j / 3) * 3 + j % 3 by omega, this]
        generalize (Builtin.zeroCells (Value.agg #[.string ⟨#[]⟩, .string ⟨#[]⟩, .int .i64 0]).cells (L.length - ii)).toList = zs at *
        have SF : Hid (SliceG (wr.setCells g (ii * 3) zs) B (.slice (some ⟨g, 0, none⟩) ii cap) Z) := by
          show SliceG _ _ _ _
          rw [← HFil.out]
          refine ⟨⟨_, _, by rw [hlen], fun _ => ⟨g, rfl, hBg, ?_, fun j hj o ho => ⟨?_, ?_⟩⟩⟩, _, _, by rw [hlen], by rw [hlen]; omega, fun h => by cases h⟩
          · exact Nat.lt_of_lt_of_le hgr (below_setCellsK (Nat.le_refl g) zs (ii * 3) wr).size
          · rw [World.cell?_setCells_out g zs (ii * 3) wr ⟨g, j * 3 + o, none⟩ (fun _ _ => .inl (by show j * 3 + o < ii * 3; rw [hlen] at hj; omega)), (hcell j (by omega) o ho).1, hc1 j (by omega)]
            rfl
          · rw [World.frozen?_setCells]; exact (hcell j (by rw [hlen] at hj; omega) o ho).2
        have BF : Hid (Below B w (wr.setCells g (ii * 3) zs)) := HB.out.trans (below_setCellsK hBg zs (ii * 3) wr)
        have i0 : (0 : Int) ≤ ii := by omega
        have i1 : (ii : Int) ≤ L.length := by omega
        have i2 : (ii : Int) ≤ cap := by omega
        have i3 : ¬ (ii = cap) := by omega
        clear hcell hcs hc1 HC HB
        go_wp2
        go_ret
        exact ⟨_, rfl, SF.out, BF.out⟩
  · have HZ : Hid (Z = L) := HAll.out hp
    have S1 : Hid (SliceG w1 B (.slice q L.length cap) L) := HSg.out.below hb1
    have B1 : Hid (Below B w w1) := hb1.mono hB
    clear hp hb1
    go_wp2
    go_ret
    exact ⟨_, rfl, by rw [HZ.out]; exact S1.out, B1.out⟩
set_option maxRecDepth 10000 in
set_option maxHeartbeats 4000000 in
theorem indexHas_any (tp si : ByteArray) (q : Option Addr) (cap B : Nat) (L : List Gr) (w : World) (hs : SliceG w B (.slice q L.length cap) L) (hn : L.length ≤ 1048576)
    (KP : ∀ (c : Gr) (W : World), Below w.heap.size w W → Calls Try.prog 44 #[leaveV tp si, grV c] W fun e w' => e = .returned (.bool ((isG tp si) c)) ∧ Below W.heap.size W w') :
    Calls Try.prog 73 #[.slice q L.length cap, .func (.func 44) #[leaveV tp si] #[]] w fun e w' => ((∃ k, k < L.length ∧ e = .returned (.int .i64 (k : Nat)) ∧ (isG tp si) (atG L k) = true ∧ ∀ j, j < k → (isG tp si) (atG L j) = false) ∨ (e = .returned (.int .i64 (-1)) ∧ ∀ j, j < L.length → (isG tp si) (atG L j) = false)) ∧ Below w.heap.size w w' := by
  obtain ⟨⟨q', cap', e1, hg⟩, -⟩ := hs
  injection e1 with e1 _ e3
  subst e1 e3
  have HG : Hid (0 < L.length → ∃ g, q = some ⟨g, 0, none⟩ ∧ g < w.heap.size ∧ ∀ j, j < L.length → ∀ o, o < 3 → w.cell? ⟨g, j * 3 + o, none⟩ = some (grC (atG L j) o)) := fun h0 => by
    obtain ⟨g, e, -, hgw, hc⟩ := hg h0
    exact ⟨g, e, hgw, fun j hj o ho => (hc j hj o ho).1⟩
  have KH : Hid (∀ (c : Gr) (W : World), Below w.heap.size w W → Calls Try.prog 44 #[leaveV tp si, grV c] W fun e w' => e = .returned (.bool ((isG tp si) c)) ∧ Below W.heap.size W w') := KP
  clear hg KP
  generalize hpp : (isG tp si) = pr at *
  clear hpp
  go_enter Try.func73, Try.ntmps73
  go_wp2
  go_loopw [8] (fun i wr => ∃ j : Nat, j ≤ L.length ∧ i = .int .i64 j ∧ Hid (Below w.heap.size w wr) ∧ Hid (∀ i', i' < j → pr (atG L i') = false)) (fun i _ => L.length - (intOf i).toNat)
  case atStart => exact ⟨0, Nat.zero_le _, rfl, Below.refl _ _, fun j hj => absurd hj (by omega)⟩
  case round =>
    obtain ⟨j, hj, rfl, HB, HR⟩ := hrel
    by_cases hlt : j < L.length
    · obtain ⟨g, rfl, hgw, hc⟩ := HG.out (by omega)
      have j0 : (0 : Int) ≤ j := by omega
      have j1 : (j : Int) < L.length := by omega
      have HN1 : Hid (pr (atG L j) = false → ∀ i', i' < j + 1 → pr (atG L i') = false) := fun e i' hi' => by
        by_cases e2 : i' = j
        · subst e2; exact e
        · exact HR.out i' (by omega)
      have HS0 : Hid (∀ W, Below w.heap.size w W → Calls Try.prog 44 #[leaveV tp si, .agg #[.string (atG L j).tp, .string (atG L j).si, .int .i64 (atG L j).un]] W fun e w' => e = .returned (.bool (pr (atG L j))) ∧ Below W.heap.size W w') := fun W h => KH.out (atG L j) W h
      have c0 : wr.cell? ⟨g, j * 3, none⟩ = some (.string (atG L j).tp) := by rw [(bcell HB.out).1 _ _ hgw]; exact hc j hlt 0 (by omega)
      have c1 : wr.cell? ⟨g, j * 3 + 1, none⟩ = some (.string (atG L j).si) := by rw [(bcell HB.out).1 _ _ hgw]; exact hc j hlt 1 (by omega)
      have c2 : wr.cell? ⟨g, j * 3 + 2, none⟩ = some (.int .i64 (atG L j).un) := by rw [(bcell HB.out).1 _ _ hgw]; exact hc j hlt 2 (by omega)
      have HBA : Hid (∀ o, Below w.heap.size w (wr.alloc o)) := fun o => HB.out.alloc HB.out.size _
      clear hc KH
      generalize hsm : pr (atG L j) = sm at *
      have HSM : Hid (pr (atG L j) = sm) := hsm
      clear hsm
      have HKK : Hid (∀ i', i' < j → pr (atG L i') = false) := HR.out
      generalize hyy : atG L j = y at *
      obtain ⟨tp', si', un'⟩ := y
      dsimp only at *
      generalize hlv : leaveV tp si = lv at *
      clear hlv
      go_wp2_with fail
      refine (HS0.out _ (by first | exact HB.out | exact HBA.out _)).mono ?_
      rintro e w2 ⟨rfl, hb2⟩
      have B2 : Hid (Below w.heap.size w w2) := by first | exact HB.out.trans (hb2.mono HB.out.size) | exact (HBA.out _).trans (hb2.mono (HBA.out _).size)
      clear hb2
      cases sm with
      | true =>
        go_wp2
        go_ret
        exact ⟨.inl ⟨j, hlt, rfl, by rw [hyy]; exact HSM.out, HKK.out⟩, B2.out⟩
      | false =>
        have HN2 : Hid (∀ i', i' < j + 1 → pr (atG L i') = false) := HN1.out rfl
        go_wp2
        go_roundw
        case rel => exact ⟨j + 1, by omega, by go_num, B2, HN2⟩
        case measure => simp [intOf]; omega
    · go_wp2
      go_ret
      exact ⟨.inr ⟨rfl, fun i hi => HR.out i (by omega)⟩, HB.out⟩
set_option maxRecDepth 10000 in
set_option maxHeartbeats 8000000 in
theorem deleteHas_any (tp si : ByteArray) (v : Value) (B : Nat) (L : List Gr) (w : World) (hs : SliceG w B v L) (hB : B ≤ w.heap.size) (hn : L.length ≤ 1000)
    (KP : ∀ (c : Gr) (W : World), Below B w W → Calls Try.prog 44 #[leaveV tp si, grV c] W fun e w' => e = .returned (.bool ((isG tp si) c)) ∧ Below W.heap.size W w') :
    Calls Try.prog 41 #[v, .func (.func 44) #[leaveV tp si] #[]] w fun e w' => ∃ v', e = .returned v' ∧ SliceG w' B v' (L.filter (fun g => !((isG tp si) g))) ∧ Below B w w' := by
  have HSg : Hid (SliceG w B v L) := hs
  obtain ⟨⟨q, cap, rfl, hg⟩, q2, cap2, e2, hcap, hqn⟩ := hs
  injection e2 with e3 _ e4
  subst e3 e4
  have KI : Hid (Calls Try.prog 73 #[.slice q L.length cap, .func (.func 44) #[leaveV tp si] #[]] w fun e w' => ((∃ k, k < L.length ∧ e = .returned (.int .i64 (k : Nat)) ∧ (isG tp si) (atG L k) = true ∧ ∀ j, j < k → (isG tp si) (atG L j) = false) ∨ (e = .returned (.int .i64 (-1)) ∧ ∀ j, j < L.length → (isG tp si) (atG L j) = false)) ∧ Below w.heap.size w w') := indexHas_any tp si q cap B L w HSg.out (by omega) (fun c W h => KP c W (h.mono hB))
  have KH : Hid (∀ (c : Gr) (W : World), Below B w W → Calls Try.prog 44 #[leaveV tp si, grV c] W fun e w' => e = .returned (.bool ((isG tp si) c)) ∧ Below W.heap.size W w') := KP
  have HGr : Hid (0 < L.length → ∃ g, q = some ⟨g, 0, none⟩ ∧ B ≤ g ∧ g < w.heap.size) := fun h0 => by
    obtain ⟨g, e, h1, h2, -⟩ := hg h0
    exact ⟨g, e, h1, h2⟩
  have HAll : Hid ((∀ j, j < L.length → (isG tp si) (atG L j) = false) → L.filter (fun g => !((isG tp si) g)) = L) := fun h => by
    refine List.filter_eq_self.2 fun x hx => ?_
    obtain ⟨j, hj, rfl⟩ := List.mem_iff_getElem.1 hx
    have := h j hj
    rw [atG_get hj] at this
    show (!_) = true
    rw [this]; rfl
  have HFil : Hid (keepG (fun g => !((isG tp si) g)) L L.length = L.filter (fun g => !((isG tp si) g))) := keepG_all _ L
  have HYs : Hid (∀ k, k < L.length → (isG tp si) (atG L k) = false → keepG (fun g => !((isG tp si) g)) L (k + 1) = keepG (fun g => !((isG tp si) g)) L k ++ [atG L k]) := fun k hk h => keepG_yes hk (by show (!_) = true; rw [h]; rfl)
  have HNs : Hid (∀ k, k < L.length → (isG tp si) (atG L k) = true → keepG (fun g => !((isG tp si) g)) L (k + 1) = keepG (fun g => !((isG tp si) g)) L k) := fun k hk h => keepG_no hk (by show (!_) = false; rw [h]; rfl)
  have HFirst : Hid (∀ k, k < L.length → (isG tp si) (atG L k) = true → (∀ j, j < k → (isG tp si) (atG L j) = false) → keepG (fun g => !((isG tp si) g)) L (k + 1) = L.take k) := fun k hk h h2 => by
    rw [keepG_no hk (by show (!_) = false; rw [h]; rfl)]
    exact keep_same (by omega) (fun j hj => by show (!_) = true; rw [h2 j hj]; rfl)
  clear hg KP
  generalize hlv : leaveV tp si = lv at *
  clear hlv
  generalize L.filter (fun g => !((isG tp si) g)) = Z at *
  generalize hpk : keepG (fun g => !((isG tp si) g)) = kp at *
  clear hpk
  generalize hpp : (isG tp si) = pr at *
  clear hpp
  go_enter Try.func41, Try.ntmps41
  go_wp2_with fail
  refine KI.out.mono ?_
  rintro e w1 ⟨⟨k, hk, rfl, hp, hbf⟩ | ⟨rfl, hp⟩, hb1⟩
  · obtain ⟨g, rfl, hBg, hgw⟩ := HGr.out (by omega)
    have hkeep : kp L (k + 1) = L.take k := HFirst.out k hk hp hbf
    have S1 : Hid (SliceR w1 B 3 (.slice (some ⟨g, 0, none⟩) L.length cap) L.length (fun j o => grC (atG L j) o)) := (HSg.out.1).below hb1
    have hgw1 : g < w1.heap.size := Nat.lt_of_lt_of_le hgw hb1.size
    have B1 : Hid (Below B w w1) := hb1.mono hB
    have HSt : Hid (∃ cur : Nat → Gr, SliceR w1 B 3 (.slice (some ⟨g, 0, none⟩) L.length cap) L.length (fun j o => grC (cur j) o) ∧ (∀ t, t < k → cur t = atG (kp L (k + 1)) t) ∧ ∀ t, k + 1 ≤ t → t < L.length → cur t = atG L t) := ⟨atG L, S1.out, fun t ht => by rw [hkeep, atG_take (by omega) ht], fun t _ _ => rfl⟩
    have hkl : (kp L (k + 1)).length = k := by rw [hkeep, List.length_take]; omega
    have qk : ((k : Int) == -1) = false := beq_eq_false_iff_ne.2 (by omega)
    clear hb1 hp hbf KI HSg S1 HFirst HAll HGr hkeep
    go_wp2
    go_loopw [5, 6] (fun i j wr => ∃ ii jj : Nat, i = .int .i64 ii ∧ j = .int .i64 jj ∧ ii < jj ∧ jj ≤ L.length ∧ (kp L jj).length = ii ∧ g < wr.heap.size ∧ Hid (∃ cur : Nat → Gr, SliceR wr B 3 (.slice (some ⟨g, 0, none⟩) L.length cap) L.length (fun j o => grC (cur j) o) ∧ (∀ t, t < ii → cur t = atG (kp L jj) t) ∧ ∀ t, jj ≤ t → t < L.length → cur t = atG L t) ∧ Hid (Below B w wr)) (fun _ j _ => L.length - (intOf j).toNat)
    case atStart => exact ⟨k, k + 1, rfl, by first | rfl | go_num, by omega, by omega, hkl, hgw1, HSt, B1⟩
    case round =>
      obtain ⟨ii, jj, rfl, rfl, hij, hjl, hlen, hgr, HC, HB⟩ := hrel
      clear HSt B1 hkl hgw1 qk
      by_cases hlt : jj < L.length
      · obtain ⟨cur, hcs, hc1, hc2⟩ := HC.out
        have j0 : (0 : Int) ≤ jj := by omega
        have j1 : (jj : Int) < L.length := by omega
        have i0 : (0 : Int) ≤ ii := by omega
        have i1 : (ii : Int) < L.length := by omega
        have hcell : ∀ t, t < L.length → ∀ o, o < 3 → wr.cell? ⟨g, t * 3 + o, none⟩ = some (grC (cur t) o) ∧ wr.frozen? ⟨g, t * 3 + o, none⟩ = false := by
          obtain ⟨p', c', e', hh⟩ := hcs
          injection e' with e1'
          obtain ⟨g', e2', -, -, hc⟩ := hh (by omega)
          rw [e2'] at e1'
          injection e1' with e1'
          injection e1' with e1'
          subst e1'
          exact hc
        have hcj := hc2 jj (Nat.le_refl _) hlt
        have HCell : Hid (∀ t, t < L.length → ∀ o, o < 3 → wr.cell? ⟨g, t * 3 + o, none⟩ = some (grC (cur t) o) ∧ wr.frozen? ⟨g, t * 3 + o, none⟩ = false) := hcell
        have c0 : wr.cell? ⟨g, jj * 3, none⟩ = some (.string (atG L jj).tp) := by rw [← hcj]; exact (hcell jj hlt 0 (by omega)).1
        have c1 : wr.cell? ⟨g, jj * 3 + 1, none⟩ = some (.string (atG L jj).si) := by rw [← hcj]; exact (hcell jj hlt 1 (by omega)).1
        have c2 : wr.cell? ⟨g, jj * 3 + 2, none⟩ = some (.int .i64 (atG L jj).un) := by rw [← hcj]; exact (hcell jj hlt 2 (by omega)).1
        have HS0 : Hid (∀ W, Below B w W → Calls Try.prog 44 #[lv, .agg #[.string (atG L jj).tp, .string (atG L jj).si, .int .i64 (atG L jj).un]] W fun e w' => e = .returned (.bool (pr (atG L jj))) ∧ Below W.heap.size W w') := fun W h => KH.out (atG L jj) W h
        have HBA : Hid (∀ o, Below wr.heap.size wr (wr.alloc o)) := fun o => (Below.refl _ _).alloc (Nat.le_refl _) _
        have HBW : Hid (∀ W, Below wr.heap.size wr W → Below B w W) := fun W h => HB.out.trans (h.mono (Nat.le_trans hB HB.out.size))
        have HCS : Hid (SliceR wr B 3 (.slice (some ⟨g, 0, none⟩) L.length cap) L.length (fun j o => grC (cur j) o)) := hcs
        have HC1 : Hid (∀ t, t < ii → cur t = atG (kp L jj) t) := hc1
        have HC2 : Hid (∀ t, jj ≤ t → t < L.length → cur t = atG L t) := hc2
        have HY1 : Hid (pr (atG L jj) = false → kp L (jj + 1) = kp L jj ++ [atG L jj]) := HYs.out jj hlt
        have HN1 : Hid (pr (atG L jj) = true → kp L (jj + 1) = kp L jj) := HNs.out jj hlt
        clear hcell hcs hc1 hc2 hcj HC KH HYs HNs
        generalize hsm : pr (atG L jj) = sm at *
        clear hsm
        generalize hyy : atG L jj = y at *
        obtain ⟨tp', si', un'⟩ := y
        dsimp only at *
        obtain ⟨W0, hW⟩ : ∃ W0, W0 = wr.alloc (.cells #[.string tp', .string si', .int .i64 un'] 64) := ⟨_, rfl⟩
        have hW0 : Hid (W0 = wr.alloc (.cells #[.string tp', .string si', .int .i64 un'] 64)) := hW
        have HBr : Hid (Below wr.heap.size wr W0) := by show Below _ _ _; rw [hW]; exact (Below.refl _ _).alloc (Nat.le_refl _) _
        have n0 : W0.cell? ⟨wr.heap.size, 0, none⟩ = some (.string tp') := by rw [hW]; simp
        have n1 : W0.cell? ⟨wr.heap.size, 1, none⟩ = some (.string si') := by rw [hW]; simp
        have n2 : W0.cell? ⟨wr.heap.size, 2, none⟩ = some (.int .i64 un') := by rw [hW]; simp
        have hbW : wr.heap.size < W0.heap.size := by rw [hW]; simp
        clear hW HBA
        go_upto_region 8 with fail
        rw [← hW0.out]
        clear hW0
        generalize hbb : wr.heap.size = bx at *
        go_wp2_with fail
        refine (HS0.out _ (HBW.out _ HBr.out)).mono ?_
        rintro e w2 ⟨rfl, hb2⟩
        have A2 : Hid (Below bx wr w2) := HBr.out.trans (hb2.mono (Nat.le_of_lt hbW))
        have x0 : w2.cell? ⟨bx, 0, none⟩ = some (.string tp') := ((bcell hb2).1 _ _ hbW).trans n0
        have x1 : w2.cell? ⟨bx, 1, none⟩ = some (.string si') := ((bcell hb2).1 _ _ hbW).trans n1
        have x2 : w2.cell? ⟨bx, 2, none⟩ = some (.int .i64 un') := ((bcell hb2).1 _ _ hbW).trans n2
        have B2 : Hid (Below B w w2) := HBW.out _ A2.out
        have hg2 : g < w2.heap.size := Nat.lt_of_lt_of_le (by rw [hbb]; exact hgr) A2.out.size
        have S2 : Hid (SliceR w2 B 3 (.slice (some ⟨g, 0, none⟩) L.length cap) L.length (fun j o => grC (cur j) o)) := SliceR.below HCS.out (by rw [hbb]; exact A2.out)
        cases sm with
        | true =>
          have hkp := HN1.out rfl
          have HC3 : Hid (∃ cur : Nat → Gr, SliceR w2 B 3 (.slice (some ⟨g, 0, none⟩) L.length cap) L.length (fun j o => grC (cur j) o) ∧ (∀ t, t < ii → cur t = atG (kp L (jj + 1)) t) ∧ ∀ t, jj + 1 ≤ t → t < L.length → cur t = atG L t) := ⟨cur, S2.out, fun t ht => by rw [hkp]; exact HC1.out t ht, fun t h1 h2 => HC2.out t (by omega) h2⟩
          have hlen2 : (kp L (jj + 1)).length = ii := by rw [hkp]; exact hlen
          clear hb2 hkp n0 n1 n2 x0 x1 x2
          go_wp2
          go_roundw
          case rel => exact ⟨ii, jj + 1, rfl, by go_num, by omega, by omega, hlen2, hg2, HC3, B2⟩
          case measure => simp [intOf]; omega
        | false =>
          have hkp := HY1.out rfl
          have hlen2 : (kp L (jj + 1)).length = ii + 1 := by rw [hkp, List.length_append, hlen]; rfl
          obtain ⟨f0, z0⟩ : w2.cell? ⟨g, ii * 3, none⟩ = some (.string (cur ii).tp) ∧ w2.frozen? ⟨g, ii * 3, none⟩ = false := ⟨(A2.out.cell (p := ⟨g, _, none⟩) hgr).trans (HCell.out ii (by omega) 0 (by omega)).1, (A2.out.frozen (p := ⟨g, _, none⟩) hgr).trans (HCell.out ii (by omega) 0 (by omega)).2⟩
          obtain ⟨f1, z1⟩ : w2.cell? ⟨g, ii * 3 + 1, none⟩ = some (.string (cur ii).si) ∧ w2.frozen? ⟨g, ii * 3 + 1, none⟩ = false := ⟨(A2.out.cell (p := ⟨g, _, none⟩) hgr).trans (HCell.out ii (by omega) 1 (by omega)).1, (A2.out.frozen (p := ⟨g, _, none⟩) hgr).trans (HCell.out ii (by omega) 1 (by omega)).2⟩
          obtain ⟨f2, z2⟩ : w2.cell? ⟨g, ii * 3 + 2, none⟩ = some (.int .i64 (cur ii).un) ∧ w2.frozen? ⟨g, ii * 3 + 2, none⟩ = false := ⟨(A2.out.cell (p := ⟨g, _, none⟩) hgr).trans (HCell.out ii (by omega) 2 (by omega)).1, (A2.out.frozen (p := ⟨g, _, none⟩) hgr).trans (HCell.out ii (by omega) 2 (by omega)).2⟩
          have HC3 : Hid (∃ cur : Nat → Gr, SliceR (((w2.setCell ⟨g, ii * 3, none⟩ (.string tp')).setCell ⟨g, ii * 3 + 1, none⟩ (.string si')).setCell ⟨g, ii * 3 + 2, none⟩ (.int .i64 un')) B 3 (.slice (some ⟨g, 0, none⟩) L.length cap) L.length (fun j o => grC (cur j) o) ∧ (∀ t, t < ii + 1 → cur t = atG (kp L (jj + 1)) t) ∧ ∀ t, jj + 1 ≤ t → t < L.length → cur t = atG L t) := by
            refine ⟨fun t => if t = ii then ⟨tp', si', un'⟩ else cur t, SliceR.congr (SliceR.putGr S2.out ii (by omega) ⟨tp', si', un'⟩) (fun j hj o ho => ?_), fun t ht => ?_, fun t h1 h2 => ?_⟩
            · by_cases e : j = ii
              · simp only [if_pos e]
              · simp only [if_neg e]
            · rw [hkp, atG_snoc, hlen]
              by_cases e : t = ii
              · simp only [if_pos e]; rw [if_neg (by omega)]
              · simp only [if_neg e]; rw [if_pos (by omega)]; exact HC1.out t (by omega)
            · simp only [if_neg (show ¬ t = ii by omega)]; exact HC2.out t (by omega) h2
          have B3 : Hid (Below B w (((w2.setCell ⟨g, ii * 3, none⟩ (.string tp')).setCell ⟨g, ii * 3 + 1, none⟩ (.string si')).setCell ⟨g, ii * 3 + 2, none⟩ (.int .i64 un'))) := ((B2.out.setCell hBg _).setCell hBg _).setCell hBg _
          have hg3 : g < (((w2.setCell ⟨g, ii * 3, none⟩ (.string tp')).setCell ⟨g, ii * 3 + 1, none⟩ (.string si')).setCell ⟨g, ii * 3 + 2, none⟩ (.int .i64 un')).heap.size := by simpa using hg2
          generalize (cur ii).tp = o0 at *
          generalize (cur ii).si = o1 at *
          generalize (cur ii).un = o2 at *
          clear hb2 hkp c0 c1 c2 HCell HCS n0 n1 n2
          go_wp2
          go_roundw
          case rel => exact ⟨ii + 1, jj + 1, by go_num, by go_num, by omega, by omega, hlen2, hg3, HC3, B3⟩
          case measure => simp [intOf]; omega
      · obtain rfl : jj = L.length := by omega
        obtain ⟨cur, hcs, hc1, -⟩ := HC.out
        have hcell : ∀ t, t < L.length → ∀ o, o < 3 → wr.cell? ⟨g, t * 3 + o, none⟩ = some (grC (cur t) o) ∧ wr.frozen? ⟨g, t * 3 + o, none⟩ = false := by
          obtain ⟨p', c', e', hh⟩ := hcs
          injection e' with e1'
          obtain ⟨g', e2', -, -, hc⟩ := hh (by omega)
          rw [e2'] at e1'
          injection e1' with e1'
          injection e1' with e1'
          subst e1'
          exact hc
        have hcl : ∀ ty, (Builtin.clear_ #[23] ty #[.slice (some ⟨g, ii * 3, none⟩) (L.length - ii) (cap - ii)]).run Try.prog wr = .ok (.tuple #[]) (wr.setCells g (ii * 3) (Builtin.zeroCells (Value.agg #[.string ⟨#[]⟩, .string ⟨#[]⟩, .int .i64 0]).cells (L.length - ii)).toList) := fun ty => by
          refine run_clear_cells wr _ 64 ty (.agg #[.string ⟨#[]⟩, .string ⟨#[]⟩, .int .i64 0]) Try.underlying23 (fun W => Try.zeroValue64 W) g (ii * 3) _ _ (by omega) ?_ ?_ ?_
          · intro v hv
            simp only [Builtin.zeroCells, Value.cells, Array.toList_map, List.mem_map] at hv
            obtain ⟨i, -, rfl⟩ := hv
            have hm : i % 3 = 0 ∨ i % 3 = 1 ∨ i % 3 = 2 := by omega
            rcases hm with e | e | e <;> simp [e, Value.oneCell']
          · intro j hj
            rw [zeroCells_len] at hj
            simp only [Value.cells] at hj
            have hj2 : j < (L.length - ii) * 3 := hj
            have := (hcell (ii + j / 3) (by omega) (j % 3) (Nat.mod_lt _ (by decide))).1
            rw [show ii * 3 + j = (ii + j / 3) * 3 + j % 3 by omega, this]; rfl
          · intro j hj
            rw [zeroCells_len] at hj
            simp only [Value.cells] at hj
            have hj2 : j < (L.length - ii) * 3 := hj
            have := (hcell (ii + j / 3) (by omega) (j % 3) (Nat.mod_lt _ (by decide))).2
            rw [show ii * 3 + j = (ii + j / 3) * 3 + j % 3 by omega, this]
        generalize (Builtin.zeroCells (Value.agg #[.string ⟨#[]⟩, .string ⟨#[]⟩, .int .i64 0]).cells (L.length - ii)).toList = zs at *
        have SF : Hid (SliceG (wr.setCells g (ii * 3) zs) B (.slice (some ⟨g, 0, none⟩) ii cap) Z) := by
          show SliceG _ _ _ _
          rw [← HFil.out]
          refine ⟨⟨_, _, by rw [hlen], fun _ => ⟨g, rfl, hBg, ?_, fun j hj o ho => ⟨?_, ?_⟩⟩⟩, _, _, by rw [hlen], by rw [hlen]; omega, fun h => by cases h⟩
          · exact Nat.lt_of_lt_of_le hgr (below_setCellsK (Nat.le_refl g) zs (ii * 3) wr).size
          · rw [World.cell?_setCells_out g zs (ii * 3) wr ⟨g, j * 3 + o, none⟩ (fun _ _ => .inl (by show j * 3 + o < ii * 3; rw [hlen] at hj; omega)), (hcell j (by omega) o ho).1, hc1 j (by omega)]
            rfl
          · rw [World.frozen?_setCells]; exact (hcell j (by rw [hlen] at hj; omega) o ho).2
        have BF : Hid (Below B w (wr.setCells g (ii * 3) zs)) := HB.out.trans (below_setCellsK hBg zs (ii * 3) wr)
        have i0 : (0 : Int) ≤ ii := by omega
        have i1 : (ii : Int) ≤ L.length := by omega
        have i2 : (ii : Int) ≤ cap := by omega
        have i3 : ¬ (ii = cap) := by omega
        clear hcell hcs hc1 HC HB
        go_wp2
        go_ret
        exact ⟨_, rfl, SF.out, BF.out⟩
  · have HZ : Hid (Z = L) := HAll.out hp
    have S1 : Hid (SliceG w1 B (.slice q L.length cap) L) := HSg.out.below hb1
    have B1 : Hid (Below B w w1) := hb1.mono hB
    clear hp hb1
    go_wp2
    go_ret
    exact ⟨_, rfl, by rw [HZ.out]; exact S1.out, B1.out⟩
set_option maxRecDepth 10000 in
set_option maxHeartbeats 4000000 in
theorem indexPut_any (b1 b2 : Nat) (p : Gr → Bool) (q : Option Addr) (cap B : Nat) (L : List Gr) (w : World) (hs : SliceG w B (.slice q L.length cap) L) (hn : L.length ≤ 1048576)
    (KP : ∀ (c : Gr) (W : World), Below w.heap.size w W → Calls Try.prog 43 #[grV c, .pointer (some ⟨b1, 0, none⟩), .pointer (some ⟨b2, 0, none⟩)] W fun e w' => e = .returned (.bool (p c)) ∧ Below W.heap.size W w') :
    Calls Try.prog 73 #[.slice q L.length cap, .func (.func 43) #[] #[.pointer (some ⟨b1, 0, none⟩), .pointer (some ⟨b2, 0, none⟩)]] w fun e w' => ((∃ k, k < L.length ∧ e = .returned (.int .i64 (k : Nat)) ∧ p (atG L k) = true ∧ ∀ j, j < k → p (atG L j) = false) ∨ (e = .returned (.int .i64 (-1)) ∧ ∀ j, j < L.length → p (atG L j) = false)) ∧ Below w.heap.size w w' := by
  obtain ⟨⟨q', cap', e1, hg⟩, -⟩ := hs
  injection e1 with e1 _ e3
  subst e1 e3
  have HG : Hid (0 < L.length → ∃ g, q = some ⟨g, 0, none⟩ ∧ g < w.heap.size ∧ ∀ j, j < L.length → ∀ o, o < 3 → w.cell? ⟨g, j * 3 + o, none⟩ = some (grC (atG L j) o)) := fun h0 => by
    obtain ⟨g, e, -, hgw, hc⟩ := hg h0
    exact ⟨g, e, hgw, fun j hj o ho => (hc j hj o ho).1⟩
  have KH : Hid (∀ (c : Gr) (W : World), Below w.heap.size w W → Calls Try.prog 43 #[grV c, .pointer (some ⟨b1, 0, none⟩), .pointer (some ⟨b2, 0, none⟩)] W fun e w' => e = .returned (.bool (p c)) ∧ Below W.heap.size W w') := KP
  clear hg KP
  generalize hpp : p = pr at *
  clear hpp
  go_enter Try.func73, Try.ntmps73
  go_wp2
  go_loopw [8] (fun i wr => ∃ j : Nat, j ≤ L.length ∧ i = .int .i64 j ∧ Hid (Below w.heap.size w wr) ∧ Hid (∀ i', i' < j → pr (atG L i') = false)) (fun i _ => L.length - (intOf i).toNat)
  case atStart => exact ⟨0, Nat.zero_le _, rfl, Below.refl _ _, fun j hj => absurd hj (by omega)⟩
  case round =>
    obtain ⟨j, hj, rfl, HB, HR⟩ := hrel
    by_cases hlt : j < L.length
    · obtain ⟨g, rfl, hgw, hc⟩ := HG.out (by omega)
      have j0 : (0 : Int) ≤ j := by omega
      have j1 : (j : Int) < L.length := by omega
      have HN1 : Hid (pr (atG L j) = false → ∀ i', i' < j + 1 → pr (atG L i') = false) := fun e i' hi' => by
        by_cases e2 : i' = j
        · subst e2; exact e
        · exact HR.out i' (by omega)
      have HS0 : Hid (∀ W, Below w.heap.size w W → Calls Try.prog 43 #[.agg #[.string (atG L j).tp, .string (atG L j).si, .int .i64 (atG L j).un], .pointer (some ⟨b1, 0, none⟩), .pointer (some ⟨b2, 0, none⟩)] W fun e w' => e = .returned (.bool (pr (atG L j))) ∧ Below W.heap.size W w') := fun W h => KH.out (atG L j) W h
      have c0 : wr.cell? ⟨g, j * 3, none⟩ = some (.string (atG L j).tp) := by rw [(bcell HB.out).1 _ _ hgw]; exact hc j hlt 0 (by omega)
      have c1 : wr.cell? ⟨g, j * 3 + 1, none⟩ = some (.string (atG L j).si) := by rw [(bcell HB.out).1 _ _ hgw]; exact hc j hlt 1 (by omega)
      have c2 : wr.cell? ⟨g, j * 3 + 2, none⟩ = some (.int .i64 (atG L j).un) := by rw [(bcell HB.out).1 _ _ hgw]; exact hc j hlt 2 (by omega)
      have HBA : Hid (∀ o, Below w.heap.size w (wr.alloc o)) := fun o => HB.out.alloc HB.out.size _
      clear hc KH
      generalize hsm : pr (atG L j) = sm at *
      have HSM : Hid (pr (atG L j) = sm) := hsm
      clear hsm
      have HKK : Hid (∀ i', i' < j → pr (atG L i') = false) := HR.out
      generalize hyy : atG L j = y at *
      obtain ⟨tp', si', un'⟩ := y
      dsimp only at *
      go_wp2_with fail
      refine (HS0.out _ (by first | exact HB.out | exact HBA.out _)).mono ?_
      rintro e w2 ⟨rfl, hb2⟩
      have B2 : Hid (Below w.heap.size w w2) := by first | exact HB.out.trans (hb2.mono HB.out.size) | exact (HBA.out _).trans (hb2.mono (HBA.out _).size)
      clear hb2
      cases sm with
      | true =>
        go_wp2
        go_ret
        exact ⟨.inl ⟨j, hlt, rfl, by rw [hyy]; exact HSM.out, HKK.out⟩, B2.out⟩
      | false =>
        have HN2 : Hid (∀ i', i' < j + 1 → pr (atG L i') = false) := HN1.out rfl
        go_wp2
        go_roundw
        case rel => exact ⟨j + 1, by omega, by go_num, B2, HN2⟩
        case measure => simp [intOf]; omega
    · go_wp2
      go_ret
      exact ⟨.inr ⟨rfl, fun i hi => HR.out i (by omega)⟩, HB.out⟩
set_option maxRecDepth 10000 in
set_option maxHeartbeats 8000000 in
theorem deletePut_any (b1 b2 : Nat) (p : Gr → Bool) (v : Value) (B : Nat) (L : List Gr) (w : World) (hs : SliceG w B v L) (hB : B ≤ w.heap.size) (hn : L.length ≤ 1000)
    (KP : ∀ (c : Gr) (W : World), Below B w W → Calls Try.prog 43 #[grV c, .pointer (some ⟨b1, 0, none⟩), .pointer (some ⟨b2, 0, none⟩)] W fun e w' => e = .returned (.bool (p c)) ∧ Below W.heap.size W w') :
    Calls Try.prog 41 #[v, .func (.func 43) #[] #[.pointer (some ⟨b1, 0, none⟩), .pointer (some ⟨b2, 0, none⟩)]] w fun e w' => ∃ v', e = .returned v' ∧ (SliceG w' B v' (L.filter (fun g => !(p g))) ∧ (PlacedG v → PlacedG v')) ∧ Below B w w' := by
  have HSg : Hid (SliceG w B v L) := hs
  obtain ⟨⟨q, cap, rfl, hg⟩, q2, cap2, e2, hcap, hqn⟩ := hs
  injection e2 with e3 _ e4
  subst e3 e4
  have KI : Hid (Calls Try.prog 73 #[.slice q L.length cap, .func (.func 43) #[] #[.pointer (some ⟨b1, 0, none⟩), .pointer (some ⟨b2, 0, none⟩)]] w fun e w' => ((∃ k, k < L.length ∧ e = .returned (.int .i64 (k : Nat)) ∧ p (atG L k) = true ∧ ∀ j, j < k → p (atG L j) = false) ∨ (e = .returned (.int .i64 (-1)) ∧ ∀ j, j < L.length → p (atG L j) = false)) ∧ Below w.heap.size w w') := indexPut_any b1 b2 p q cap B L w HSg.out (by omega) (fun c W h => KP c W (h.mono hB))
  have KH : Hid (∀ (c : Gr) (W : World), Below B w W → Calls Try.prog 43 #[grV c, .pointer (some ⟨b1, 0, none⟩), .pointer (some ⟨b2, 0, none⟩)] W fun e w' => e = .returned (.bool (p c)) ∧ Below W.heap.size W w') := KP
  have HGr : Hid (0 < L.length → ∃ g, q = some ⟨g, 0, none⟩ ∧ B ≤ g ∧ g < w.heap.size) := fun h0 => by
    obtain ⟨g, e, h1, h2, -⟩ := hg h0
    exact ⟨g, e, h1, h2⟩
  have HAll : Hid ((∀ j, j < L.length → p (atG L j) = false) → L.filter (fun g => !(p g)) = L) := fun h => by
    refine List.filter_eq_self.2 fun x hx => ?_
    obtain ⟨j, hj, rfl⟩ := List.mem_iff_getElem.1 hx
    have := h j hj
    rw [atG_get hj] at this
    show (!_) = true
    rw [this]; rfl
  have HFil : Hid (keepG (fun g => !(p g)) L L.length = L.filter (fun g => !(p g))) := keepG_all _ L
  have HYs : Hid (∀ k, k < L.length → p (atG L k) = false → keepG (fun g => !(p g)) L (k + 1) = keepG (fun g => !(p g)) L k ++ [atG L k]) := fun k hk h => keepG_yes hk (by show (!_) = true; rw [h]; rfl)
  have HNs : Hid (∀ k, k < L.length → p (atG L k) = true → keepG (fun g => !(p g)) L (k + 1) = keepG (fun g => !(p g)) L k) := fun k hk h => keepG_no hk (by show (!_) = false; rw [h]; rfl)
  have HFirst : Hid (∀ k, k < L.length → p (atG L k) = true → (∀ j, j < k → p (atG L j) = false) → keepG (fun g => !(p g)) L (k + 1) = L.take k) := fun k hk h h2 => by
    rw [keepG_no hk (by show (!_) = false; rw [h]; rfl)]
    exact keep_same (by omega) (fun j hj => by show (!_) = true; rw [h2 j hj]; rfl)
  clear hg KP
  generalize L.filter (fun g => !(p g)) = Z at *
  generalize hpk : keepG (fun g => !(p g)) = kp at *
  clear hpk
  generalize hpp : p = pr at *
  clear hpp
  go_enter Try.func41, Try.ntmps41
  go_wp2_with fail
  refine KI.out.mono ?_
  rintro e w1 ⟨⟨k, hk, rfl, hp, hbf⟩ | ⟨rfl, hp⟩, hb1⟩
  · obtain ⟨g, rfl, hBg, hgw⟩ := HGr.out (by omega)
    have hkeep : kp L (k + 1) = L.take k := HFirst.out k hk hp hbf
    have S1 : Hid (SliceR w1 B 3 (.slice (some ⟨g, 0, none⟩) L.length cap) L.length (fun j o => grC (atG L j) o)) := (HSg.out.1).below hb1
    have hgw1 : g < w1.heap.size := Nat.lt_of_lt_of_le hgw hb1.size
    have B1 : Hid (Below B w w1) := hb1.mono hB
    have HSt : Hid (∃ cur : Nat → Gr, SliceR w1 B 3 (.slice (some ⟨g, 0, none⟩) L.length cap) L.length (fun j o => grC (cur j) o) ∧ (∀ t, t < k → cur t = atG (kp L (k + 1)) t) ∧ ∀ t, k + 1 ≤ t → t < L.length → cur t = atG L t) := ⟨atG L, S1.out, fun t ht => by rw [hkeep, atG_take (by omega) ht], fun t _ _ => rfl⟩
    have hkl : (kp L (k + 1)).length = k := by rw [hkeep, List.length_take]; omega
    have qk : ((k : Int) == -1) = false := beq_eq_false_iff_ne.2 (by omega)
    clear hb1 hp hbf KI HSg S1 HFirst HAll HGr hkeep
    go_wp2
    go_loopw [5, 6] (fun i j wr => ∃ ii jj : Nat, i = .int .i64 ii ∧ j = .int .i64 jj ∧ ii < jj ∧ jj ≤ L.length ∧ (kp L jj).length = ii ∧ g < wr.heap.size ∧ Hid (∃ cur : Nat → Gr, SliceR wr B 3 (.slice (some ⟨g, 0, none⟩) L.length cap) L.length (fun j o => grC (cur j) o) ∧ (∀ t, t < ii → cur t = atG (kp L jj) t) ∧ ∀ t, jj ≤ t → t < L.length → cur t = atG L t) ∧ Hid (Below B w wr)) (fun _ j _ => L.length - (intOf j).toNat)
    case atStart => exact ⟨k, k + 1, rfl, by first | rfl | go_num, by omega, by omega, hkl, hgw1, HSt, B1⟩
    case round =>
      obtain ⟨ii, jj, rfl, rfl, hij, hjl, hlen, hgr, HC, HB⟩ := hrel
      clear HSt B1 hkl hgw1 qk
      by_cases hlt : jj < L.length
      · obtain ⟨cur, hcs, hc1, hc2⟩ := HC.out
        have j0 : (0 : Int) ≤ jj := by omega
        have j1 : (jj : Int) < L.length := by omega
        have i0 : (0 : Int) ≤ ii := by omega
        have i1 : (ii : Int) < L.length := by omega
        have hcell : ∀ t, t < L.length → ∀ o, o < 3 → wr.cell? ⟨g, t * 3 + o, none⟩ = some (grC (cur t) o) ∧ wr.frozen? ⟨g, t * 3 + o, none⟩ = false := by
          obtain ⟨p', c', e', hh⟩ := hcs
          injection e' with e1'
          obtain ⟨g', e2', -, -, hc⟩ := hh (by omega)
          rw [e2'] at e1'
          injection e1' with e1'
          injection e1' with e1'
          subst e1'
          exact hc
        have hcj := hc2 jj (Nat.le_refl _) hlt
        have HCell : Hid (∀ t, t < L.length → ∀ o, o < 3 → wr.cell? ⟨g, t * 3 + o, none⟩ = some (grC (cur t) o) ∧ wr.frozen? ⟨g, t * 3 + o, none⟩ = false) := hcell
        have c0 : wr.cell? ⟨g, jj * 3, none⟩ = some (.string (atG L jj).tp) := by rw [← hcj]; exact (hcell jj hlt 0 (by omega)).1
        have c1 : wr.cell? ⟨g, jj * 3 + 1, none⟩ = some (.string (atG L jj).si) := by rw [← hcj]; exact (hcell jj hlt 1 (by omega)).1
        have c2 : wr.cell? ⟨g, jj * 3 + 2, none⟩ = some (.int .i64 (atG L jj).un) := by rw [← hcj]; exact (hcell jj hlt 2 (by omega)).1
        have HS0 : Hid (∀ W, Below B w W → Calls Try.prog 43 #[.agg #[.string (atG L jj).tp, .string (atG L jj).si, .int .i64 (atG L jj).un], .pointer (some ⟨b1, 0, none⟩), .pointer (some ⟨b2, 0, none⟩)] W fun e w' => e = .returned (.bool (pr (atG L jj))) ∧ Below W.heap.size W w') := fun W h => KH.out (atG L jj) W h
        have HBA : Hid (∀ o, Below wr.heap.size wr (wr.alloc o)) := fun o => (Below.refl _ _).alloc (Nat.le_refl _) _
        have HBW : Hid (∀ W, Below wr.heap.size wr W → Below B w W) := fun W h => HB.out.trans (h.mono (Nat.le_trans hB HB.out.size))
        have HCS : Hid (SliceR wr B 3 (.slice (some ⟨g, 0, none⟩) L.length cap) L.length (fun j o => grC (cur j) o)) := hcs
        have HC1 : Hid (∀ t, t < ii → cur t = atG (kp L jj) t) := hc1
        have HC2 : Hid (∀ t, jj ≤ t → t < L.length → cur t = atG L t) := hc2
        have HY1 : Hid (pr (atG L jj) = false → kp L (jj + 1) = kp L jj ++ [atG L jj]) := HYs.out jj hlt
        have HN1 : Hid (pr (atG L jj) = true → kp L (jj + 1) = kp L jj) := HNs.out jj hlt
        clear hcell hcs hc1 hc2 hcj HC KH HYs HNs
        generalize hsm : pr (atG L jj) = sm at *
        clear hsm
        generalize hyy : atG L jj = y at *
        obtain ⟨tp', si', un'⟩ := y
        dsimp only at *
        obtain ⟨W0, hW⟩ : ∃ W0, W0 = wr.alloc (.cells #[.string tp', .string si', .int .i64 un'] 64) := ⟨_, rfl⟩
        have hW0 : Hid (W0 = wr.alloc (.cells #[.string tp', .string si', .int .i64 un'] 64)) := hW
        have HBr : Hid (Below wr.heap.size wr W0) := by show Below _ _ _; rw [hW]; exact (Below.refl _ _).alloc (Nat.le_refl _) _
        have n0 : W0.cell? ⟨wr.heap.size, 0, none⟩ = some (.string tp') := by rw [hW]; simp
        have n1 : W0.cell? ⟨wr.heap.size, 1, none⟩ = some (.string si') := by rw [hW]; simp
        have n2 : W0.cell? ⟨wr.heap.size, 2, none⟩ = some (.int .i64 un') := by rw [hW]; simp
        have hbW : wr.heap.size < W0.heap.size := by rw [hW]; simp
        clear hW HBA
        go_upto_region 8 with fail
        rw [← hW0.out]
        clear hW0
        generalize hbb : wr.heap.size = bx at *
        go_wp2_with fail
        refine (HS0.out _ (HBW.out _ HBr.out)).mono ?_
        rintro e w2 ⟨rfl, hb2⟩
        have A2 : Hid (Below bx wr w2) := HBr.out.trans (hb2.mono (Nat.le_of_lt hbW))
        have x0 : w2.cell? ⟨bx, 0, none⟩ = some (.string tp') := ((bcell hb2).1 _ _ hbW).trans n0
        have x1 : w2.cell? ⟨bx, 1, none⟩ = some (.string si') := ((bcell hb2).1 _ _ hbW).trans n1
        have x2 : w2.cell? ⟨bx, 2, none⟩ = some (.int .i64 un') := ((bcell hb2).1 _ _ hbW).trans n2
        have B2 : Hid (Below B w w2) := HBW.out _ A2.out
        have hg2 : g < w2.heap.size := Nat.lt_of_lt_of_le (by rw [hbb]; exact hgr) A2.out.size
        have S2 : Hid (SliceR w2 B 3 (.slice (some ⟨g, 0, none⟩) L.length cap) L.length (fun j o => grC (cur j) o)) := SliceR.below HCS.out (by rw [hbb]; exact A2.out)
        cases sm with
        | true =>
          have hkp := HN1.out rfl
          have HC3 : Hid (∃ cur : Nat → Gr, SliceR w2 B 3 (.slice (some ⟨g, 0, none⟩) L.length cap) L.length (fun j o => grC (cur j) o) ∧ (∀ t, t < ii → cur t = atG (kp L (jj + 1)) t) ∧ ∀ t, jj + 1 ≤ t → t < L.length → cur t = atG L t) := ⟨cur, S2.out, fun t ht => by rw [hkp]; exact HC1.out t ht, fun t h1 h2 => HC2.out t (by omega) h2⟩
          have hlen2 : (kp L (jj + 1)).length = ii := by rw [hkp]; exact hlen
          clear hb2 hkp n0 n1 n2 x0 x1 x2
          go_wp2
          go_roundw
          case rel => exact ⟨ii, jj + 1, rfl, by go_num, by omega, by omega, hlen2, hg2, HC3, B2⟩
          case measure => simp [intOf]; omega
        | false =>
          have hkp := HY1.out rfl
          have hlen2 : (kp L (jj + 1)).length = ii + 1 := by rw [hkp, List.length_append, hlen]; rfl
          obtain ⟨f0, z0⟩ : w2.cell? ⟨g, ii * 3, none⟩ = some (.string (cur ii).tp) ∧ w2.frozen? ⟨g, ii * 3, none⟩ = false := ⟨(A2.out.cell (p := ⟨g, _, none⟩) hgr).trans (HCell.out ii (by omega) 0 (by omega)).1, (A2.out.frozen (p := ⟨g, _, none⟩) hgr).trans (HCell.out ii (by omega) 0 (by omega)).2⟩
          obtain ⟨f1, z1⟩ : w2.cell? ⟨g, ii * 3 + 1, none⟩ = some (.string (cur ii).si) ∧ w2.frozen? ⟨g, ii * 3 + 1, none⟩ = false := ⟨(A2.out.cell (p := ⟨g, _, none⟩) hgr).trans (HCell.out ii (by omega) 1 (by omega)).1, (A2.out.frozen (p := ⟨g, _, none⟩) hgr).trans (HCell.out ii (by omega) 1 (by omega)).2⟩
          obtain ⟨f2, z2⟩ : w2.cell? ⟨g, ii * 3 + 2, none⟩ = some (.int .i64 (cur ii).un) ∧ w2.frozen? ⟨g, ii * 3 + 2, none⟩ = false := ⟨(A2.out.cell (p := ⟨g, _, none⟩) hgr).trans (HCell.out ii (by omega) 2 (by omega)).1, (A2.out.frozen (p := ⟨g, _, none⟩) hgr).trans (HCell.out ii (by omega) 2 (by omega)).2⟩
          have HC3 : Hid (∃ cur : Nat → Gr, SliceR (((w2.setCell ⟨g, ii * 3, none⟩ (.string tp')).setCell ⟨g, ii * 3 + 1, none⟩ (.string si')).setCell ⟨g, ii * 3 + 2, none⟩ (.int .i64 un')) B 3 (.slice (some ⟨g, 0, none⟩) L.length cap) L.length (fun j o => grC (cur j) o) ∧ (∀ t, t < ii + 1 → cur t = atG (kp L (jj + 1)) t) ∧ ∀ t, jj + 1 ≤ t → t < L.length → cur t = atG L t) := by
            refine ⟨fun t => if t = ii then ⟨tp', si', un'⟩ else cur t, SliceR.congr (SliceR.putGr S2.out ii (by omega) ⟨tp', si', un'⟩) (fun j hj o ho => ?_), fun t ht => ?_, fun t h1 h2 => ?_⟩
            · by_cases e : j = ii
              · simp only [if_pos e]
              · simp only [if_neg e]
            · rw [hkp, atG_snoc, hlen]
              by_cases e : t = ii
              · simp only [if_pos e]; rw [if_neg (by omega)]
              · simp only [if_neg e]; rw [if_pos (by omega)]; exact HC1.out t (by omega)
            · simp only [if_neg (show ¬ t = ii by omega)]; exact HC2.out t (by omega) h2
          have B3 : Hid (Below B w (((w2.setCell ⟨g, ii * 3, none⟩ (.string tp')).setCell ⟨g, ii * 3 + 1, none⟩ (.string si')).setCell ⟨g, ii * 3 + 2, none⟩ (.int .i64 un'))) := ((B2.out.setCell hBg _).setCell hBg _).setCell hBg _
          have hg3 : g < (((w2.setCell ⟨g, ii * 3, none⟩ (.string tp')).setCell ⟨g, ii * 3 + 1, none⟩ (.string si')).setCell ⟨g, ii * 3 + 2, none⟩ (.int .i64 un')).heap.size := by simpa using hg2
          generalize (cur ii).tp = o0 at *
          generalize (cur ii).si = o1 at *
          generalize (cur ii).un = o2 at *
          clear hb2 hkp c0 c1 c2 HCell HCS n0 n1 n2
          go_wp2
          go_roundw
          case rel => exact ⟨ii + 1, jj + 1, by go_num, by go_num, by omega, by omega, hlen2, hg3, HC3, B3⟩
          case measure => simp [intOf]; omega
      · obtain rfl : jj = L.length := by omega
        obtain ⟨cur, hcs, hc1, -⟩ := HC.out
        have hcell : ∀ t, t < L.length → ∀ o, o < 3 → wr.cell? ⟨g, t * 3 + o, none⟩ = some (grC (cur t) o) ∧ wr.frozen? ⟨g, t * 3 + o, none⟩ = false := by
          obtain ⟨p', c', e', hh⟩ := hcs
          injection e' with e1'
          obtain ⟨g', e2', -, -, hc⟩ := hh (by omega)
          rw [e2'] at e1'
          injection e1' with e1'
          injection e1' with e1'
          subst e1'
          exact hc
        have hcl : ∀ ty, (Builtin.clear_ #[23] ty #[.slice (some ⟨g, ii * 3, none⟩) (L.length - ii) (cap - ii)]).run Try.prog wr = .ok (.tuple #[]) (wr.setCells g (ii * 3) (Builtin.zeroCells (Value.agg #[.string ⟨#[]⟩, .string ⟨#[]⟩, .int .i64 0]).cells (L.length - ii)).toList) := fun ty => by
          refine run_clear_cells wr _ 64 ty (.agg #[.string ⟨#[]⟩, .string ⟨#[]⟩, .int .i64 0]) Try.underlying23 (fun W => Try.zeroValue64 W) g (ii * 3) _ _ (by omega) ?_ ?_ ?_
          · intro v hv
            simp only [Builtin.zeroCells, Value.cells, Array.toList_map, List.mem_map] at hv
            obtain ⟨i, -, rfl⟩ := hv
            have hm : i % 3 = 0 ∨ i % 3 = 1 ∨ i % 3 = 2 := by omega
            rcases hm with e | e | e <;> simp [e, Value.oneCell']
          · intro j hj
            rw [zeroCells_len] at hj
            simp only [Value.cells] at hj
            have hj2 : j < (L.length - ii) * 3 := hj
            have := (hcell (ii + j / 3) (by omega) (j % 3) (Nat.mod_lt _ (by decide))).1
            rw [show ii * 3 + j = (ii + j / 3) * 3 + j % 3 by omega, this]; rfl
          · intro j hj
            rw [zeroCells_len] at hj
            simp only [Value.cells] at hj
            have hj2 : j < (L.length - ii) * 3 := hj
            have := (hcell (ii + j / 3) (by omega) (j % 3) (Nat.mod_lt _ (by decide))).2
            rw [show ii * 3 + j = (ii + j / 3) * 3 + j % 3 by omega, this]
        generalize (Builtin.zeroCells (Value.agg #[.string ⟨#[]⟩, .string ⟨#[]⟩, .int .i64 0]).cells (L.length - ii)).toList = zs at *
        have SF : Hid (SliceG (wr.setCells g (ii * 3) zs) B (.slice (some ⟨g, 0, none⟩) ii cap) Z) := by
          show SliceG _ _ _ _
          rw [← HFil.out]
          refine ⟨⟨_, _, by rw [hlen], fun _ => ⟨g, rfl, hBg, ?_, fun j hj o ho => ⟨?_, ?_⟩⟩⟩, _, _, by rw [hlen], by rw [hlen]; omega, fun h => by cases h⟩
          · exact Nat.lt_of_lt_of_le hgr (below_setCellsK (Nat.le_refl g) zs (ii * 3) wr).size
          · rw [World.cell?_setCells_out g zs (ii * 3) wr ⟨g, j * 3 + o, none⟩ (fun _ _ => .inl (by show j * 3 + o < ii * 3; rw [hlen] at hj; omega)), (hcell j (by omega) o ho).1, hc1 j (by omega)]
            rfl
          · rw [World.frozen?_setCells]; exact (hcell j (by rw [hlen] at hj; omega) o ho).2
        have BF : Hid (Below B w (wr.setCells g (ii * 3) zs)) := HB.out.trans (below_setCellsK hBg zs (ii * 3) wr)
        have i0 : (0 : Int) ≤ ii := by omega
        have i1 : (ii : Int) ≤ L.length := by omega
        have i2 : (ii : Int) ≤ cap := by omega
        have i3 : ¬ (ii = cap) := by omega
        clear hcell hcs hc1 HC HB
        go_wp2
        go_ret
        exact ⟨_, rfl, ⟨SF.out, fun _ => .inr ⟨g, ii, cap, rfl, by omega⟩⟩, BF.out⟩
  · have HZ : Hid (Z = L) := HAll.out hp
    have S1 : Hid (SliceG w1 B (.slice q L.length cap) L) := HSg.out.below hb1
    have B1 : Hid (Below B w w1) := hb1.mono hB
    clear hp hb1
    go_wp2
    go_ret
    exact ⟨_, rfl, ⟨by rw [HZ.out]; exact S1.out, fun h => h⟩, B1.out⟩
set_option maxRecDepth 10000 in
set_option maxHeartbeats 4000000 in
theorem indexLive_any (b1 b2 : Nat) (p : Gr → Bool) (q : Option Addr) (cap B : Nat) (L : List Gr) (w : World) (hs : SliceG w B (.slice q L.length cap) L) (hn : L.length ≤ 1048576)
    (KP : ∀ (c : Gr) (W : World), Below w.heap.size w W → Calls Try.prog 87 #[grV c, .pointer (some ⟨b1, 0, none⟩), .pointer (some ⟨b2, 0, none⟩)] W fun e w' => e = .returned (.bool (p c)) ∧ Below W.heap.size W w') :
    Calls Try.prog 73 #[.slice q L.length cap, .func (.func 87) #[] #[.pointer (some ⟨b1, 0, none⟩), .pointer (some ⟨b2, 0, none⟩)]] w fun e w' => ((∃ k, k < L.length ∧ e = .returned (.int .i64 (k : Nat)) ∧ p (atG L k) = true ∧ ∀ j, j < k → p (atG L j) = false) ∨ (e = .returned (.int .i64 (-1)) ∧ ∀ j, j < L.length → p (atG L j) = false)) ∧ Below w.heap.size w w' := by
  obtain ⟨⟨q', cap', e1, hg⟩, -⟩ := hs
  injection e1 with e1 _ e3
  subst e1 e3
  have HG : Hid (0 < L.length → ∃ g, q = some ⟨g, 0, none⟩ ∧ g < w.heap.size ∧ ∀ j, j < L.length → ∀ o, o < 3 → w.cell? ⟨g, j * 3 + o, none⟩ = some (grC (atG L j) o)) := fun h0 => by
    obtain ⟨g, e, -, hgw, hc⟩ := hg h0
    exact ⟨g, e, hgw, fun j hj o ho => (hc j hj o ho).1⟩
  have KH : Hid (∀ (c : Gr) (W : World), Below w.heap.size w W → Calls Try.prog 87 #[grV c, .pointer (some ⟨b1, 0, none⟩), .pointer (some ⟨b2, 0, none⟩)] W fun e w' => e = .returned (.bool (p c)) ∧ Below W.heap.size W w') := KP
  clear hg KP
  generalize hpp : p = pr at *
  clear hpp
  go_enter Try.func73, Try.ntmps73
  go_wp2
  go_loopw [8] (fun i wr => ∃ j : Nat, j ≤ L.length ∧ i = .int .i64 j ∧ Hid (Below w.heap.size w wr) ∧ Hid (∀ i', i' < j → pr (atG L i') = false)) (fun i _ => L.length - (intOf i).toNat)
  case atStart => exact ⟨0, Nat.zero_le _, rfl, Below.refl _ _, fun j hj => absurd hj (by omega)⟩
  case round =>
    obtain ⟨j, hj, rfl, HB, HR⟩ := hrel
    by_cases hlt : j < L.length
    · obtain ⟨g, rfl, hgw, hc⟩ := HG.out (by omega)
      have j0 : (0 : Int) ≤ j := by omega
      have j1 : (j : Int) < L.length := by omega
      have HN1 : Hid (pr (atG L j) = false → ∀ i', i' < j + 1 → pr (atG L i') = false) := fun e i' hi' => by
        by_cases e2 : i' = j
        · subst e2; exact e
        · exact HR.out i' (by omega)
      have HS0 : Hid (∀ W, Below w.heap.size w W → Calls Try.prog 87 #[.agg #[.string (atG L j).tp, .string (atG L j).si, .int .i64 (atG L j).un], .pointer (some ⟨b1, 0, none⟩), .pointer (some ⟨b2, 0, none⟩)] W fun e w' => e = .returned (.bool (pr (atG L j))) ∧ Below W.heap.size W w') := fun W h => KH.out (atG L j) W h
      have c0 : wr.cell? ⟨g, j * 3, none⟩ = some (.string (atG L j).tp) := by rw [(bcell HB.out).1 _ _ hgw]; exact hc j hlt 0 (by omega)
      have c1 : wr.cell? ⟨g, j * 3 + 1, none⟩ = some (.string (atG L j).si) := by rw [(bcell HB.out).1 _ _ hgw]; exact hc j hlt 1 (by omega)
      have c2 : wr.cell? ⟨g, j * 3 + 2, none⟩ = some (.int .i64 (atG L j).un) := by rw [(bcell HB.out).1 _ _ hgw]; exact hc j hlt 2 (by omega)
      have HBA : Hid (∀ o, Below w.heap.size w (wr.alloc o)) := fun o => HB.out.alloc HB.out.size _
      clear hc KH
      generalize hsm : pr (atG L j) = sm at *
      have HSM : Hid (pr (atG L j) = sm) := hsm
      clear hsm
      have HKK : Hid (∀ i', i' < j → pr (atG L i') = false) := HR.out
      generalize hyy : atG L j = y at *
      obtain ⟨tp', si', un'⟩ := y
      dsimp only at *
      go_wp2_with fail
      refine (HS0.out _ (by first | exact HB.out | exact HBA.out _)).mono ?_
      rintro e w2 ⟨rfl, hb2⟩
      have B2 : Hid (Below w.heap.size w w2) := by first | exact HB.out.trans (hb2.mono HB.out.size) | exact (HBA.out _).trans (hb2.mono (HBA.out _).size)
      clear hb2
      cases sm with
      | true =>
        go_wp2
        go_ret
        exact ⟨.inl ⟨j, hlt, rfl, by rw [hyy]; exact HSM.out, HKK.out⟩, B2.out⟩
      | false =>
        have HN2 : Hid (∀ i', i' < j + 1 → pr (atG L i') = false) := HN1.out rfl
        go_wp2
        go_roundw
        case rel => exact ⟨j + 1, by omega, by go_num, B2, HN2⟩
        case measure => simp [intOf]; omega
    · go_wp2
      go_ret
      exact ⟨.inr ⟨rfl, fun i hi => HR.out i (by omega)⟩, HB.out⟩
set_option maxRecDepth 10000 in
set_option maxHeartbeats 4000000 in
theorem containsLive_any (b1 b2 : Nat) (p : Gr → Bool) (q : Option Addr) (cap B : Nat) (L : List Gr) (w : World) (hs : SliceG w B (.slice q L.length cap) L) (hn : L.length ≤ 1048576)
    (KP : ∀ (c : Gr) (W : World), Below w.heap.size w W → Calls Try.prog 87 #[grV c, .pointer (some ⟨b1, 0, none⟩), .pointer (some ⟨b2, 0, none⟩)] W fun e w' => e = .returned (.bool (p c)) ∧ Below W.heap.size W w') :
    Calls Try.prog 86 #[.slice q L.length cap, .func (.func 87) #[] #[.pointer (some ⟨b1, 0, none⟩), .pointer (some ⟨b2, 0, none⟩)]] w fun e w' => e = .returned (.bool (L.any p)) ∧ Below w.heap.size w w' := by
  have KI : Hid (Calls Try.prog 73 #[.slice q L.length cap, .func (.func 87) #[] #[.pointer (some ⟨b1, 0, none⟩), .pointer (some ⟨b2, 0, none⟩)]] w fun e w' => (∃ r : Int, e = .returned (.int .i64 r) ∧ decide (0 ≤ r) = L.any p) ∧ Below w.heap.size w w') := by
    refine (indexLive_any b1 b2 p q cap B L w hs hn KP).mono ?_
    rintro e w' ⟨⟨k, hk, rfl, hp, -⟩ | ⟨rfl, hp⟩, hb⟩
    · exact ⟨⟨_, rfl, by rw [any_yes hk hp, decide_eq_true_iff]; omega⟩, hb⟩
    · exact ⟨⟨_, rfl, by rw [any_no hp]; decide⟩, hb⟩
  generalize L.any p = R at *
  clear hs KP
  generalize L.length = n at *
  go_enter Try.func86, Try.ntmps86
  go_wp2_with fail
  refine KI.out.mono ?_
  rintro e w2 ⟨⟨r, rfl, hr⟩, hb2⟩
  have HQ : Hid (decide (0 ≤ r) = R) := hr
  clear hr
  go_wp2
  go_ret
  exact ⟨ret_bool HQ.out, hb2⟩
end Go.Proofs.Ytecaeolgheefmaa

/- The walks of the program's closures over grants, of mayAsk, liveIn, GrantLive. -/
namespace Go.Proofs.Ytecaeolgheefmaa
open Go.RowKit

set_option maxRecDepth 10000 in
set_option maxHeartbeats 2000000 in
theorem liveIn1_any (b1 b2 : Nat) (tp si : ByteArray) (now : Int) (c : Gr) (w : World) (z1 : b1 < w.heap.size) (z2 : b2 < w.heap.size) (h0 : w.cell? ⟨b1, 0, none⟩ = some (.string tp)) (h1 : w.cell? ⟨b1, 1, none⟩ = some (.string si)) (h2 : w.cell? ⟨b2, 0, none⟩ = some (.int .i64 now)) :
    Calls Try.prog 87 #[grV c, .pointer (some ⟨b1, 0, none⟩), .pointer (some ⟨b2, 0, none⟩)] w fun e w' => e = .returned (.bool (isG tp si c && liveG now c)) ∧ Below w.heap.size w w' := by
  have KH0 : ∀ W, Calls Try.prog 44 #[leaveV tp si, grV c] W fun e w' => e = .returned (.bool (isG tp si c)) ∧ Below W.heap.size W w' := fun W => hasG_any tp si c W
  have KO0 : ∀ W, Calls Try.prog 45 #[.int .i64 now, grV c] W fun e w' => e = .returned (.bool (!(liveG now c))) ∧ Below W.heap.size W w' := fun W => outlives_any now c W
  generalize isG tp si c = bi at *
  generalize liveG now c = bl at *
  obtain ⟨ke, na, va⟩ := c
  unfold grV leaveV at *
  dsimp only at *
  have KH : Hid (∀ W, Calls Try.prog 44 #[.agg #[.string tp, .string si], .agg #[.string ke, .string na, .int .i64 va]] W fun e w' => e = .returned (.bool bi) ∧ Below W.heap.size W w') := KH0
  have KO : Hid (∀ W, Calls Try.prog 45 #[.int .i64 now, .agg #[.string ke, .string na, .int .i64 va]] W fun e w' => e = .returned (.bool (!bl)) ∧ Below W.heap.size W w') := KO0
  clear KH0 KO0
  obtain ⟨W0, hW⟩ : ∃ W0, W0 = w.alloc (.cells #[.string ke, .string na, .int .i64 va] 64) := ⟨_, rfl⟩
  have hW0 : Hid (W0 = w.alloc (.cells #[.string ke, .string na, .int .i64 va] 64)) := hW
  have A0 : Below w.heap.size w W0 := by rw [hW]; exact (Below.refl _ _).alloc (Nat.le_refl _) _
  have B0 : Hid (Below w.heap.size w W0) := A0
  have g0 : W0.cell? ⟨w.heap.size, 0, none⟩ = some (.string ke) := by rw [hW]; simp
  have g1 : W0.cell? ⟨w.heap.size, 1, none⟩ = some (.string na) := by rw [hW]; simp
  have g2 : W0.cell? ⟨w.heap.size, 2, none⟩ = some (.int .i64 va) := by rw [hW]; simp
  have zw : w.heap.size < W0.heap.size := by rw [hW]; simp
  have k0 : W0.cell? ⟨b1, 0, none⟩ = some (.string tp) := ((bcell A0).1 _ _ z1).trans h0
  have k1 : W0.cell? ⟨b1, 1, none⟩ = some (.string si) := ((bcell A0).1 _ _ z1).trans h1
  have k2 : W0.cell? ⟨b2, 0, none⟩ = some (.int .i64 now) := ((bcell A0).1 _ _ z2).trans h2
  have z22 : b2 < W0.heap.size := Nat.lt_trans z2 zw
  clear hW A0 h0 h1 h2
  go_enter Try.func87, Try.ntmps87
  go_upto_region 1 with fail
  rw [← hW0.out]
  clear hW0
  generalize hbb : w.heap.size = b at *
  go_wp2_with fail
  refine (KH.out _).mono ?_
  rintro e w1 ⟨rfl, hb1⟩
  have x0 : w1.cell? ⟨b, 0, none⟩ = some (.string ke) := ((bcell hb1).1 _ _ zw).trans g0
  have x1 : w1.cell? ⟨b, 1, none⟩ = some (.string na) := ((bcell hb1).1 _ _ zw).trans g1
  have x2 : w1.cell? ⟨b, 2, none⟩ = some (.int .i64 va) := ((bcell hb1).1 _ _ zw).trans g2
  have x3 : w1.cell? ⟨b2, 0, none⟩ = some (.int .i64 now) := ((bcell hb1).1 _ _ z22).trans k2
  have B1 : Hid (Below b w w1) := B0.out.trans (hb1.mono (Nat.le_of_lt zw))
  have zw1 : b < w1.heap.size := Nat.lt_of_lt_of_le zw hb1.size
  clear hb1 g0 g1 g2 k0 k1 k2 KH B0
  cases bi with
  | false =>
    go_wp2
    go_ret
    exact ⟨rfl, by rw [hbb]; exact B1.out⟩
  | true =>
    go_wp2_with fail
    refine (KO.out _).mono ?_
    rintro e w2 ⟨rfl, hb2⟩
    have B2 : Hid (Below b w w2) := B1.out.trans (hb2.mono (Nat.le_of_lt zw1))
    clear hb2
    go_wp2
    go_ret
    exact ⟨ret_bool (by cases bl <;> rfl), by rw [hbb]; exact B2.out⟩
set_option maxRecDepth 10000 in
set_option maxHeartbeats 2000000 in
theorem put1_any (b1 b2 : Nat) (tp si : ByteArray) (now : Int) (c : Gr) (w : World) (z1 : b1 < w.heap.size) (z2 : b2 < w.heap.size) (h0 : w.cell? ⟨b1, 0, none⟩ = some (.string tp)) (h1 : w.cell? ⟨b1, 1, none⟩ = some (.string si)) (h2 : w.cell? ⟨b2, 0, none⟩ = some (.int .i64 now)) :
    Calls Try.prog 43 #[grV c, .pointer (some ⟨b1, 0, none⟩), .pointer (some ⟨b2, 0, none⟩)] w fun e w' => e = .returned (.bool (isG tp si c || !(liveG now c))) ∧ Below w.heap.size w w' := by
  have KH0 : ∀ W, Calls Try.prog 44 #[leaveV tp si, grV c] W fun e w' => e = .returned (.bool (isG tp si c)) ∧ Below W.heap.size W w' := fun W => hasG_any tp si c W
  have KO0 : ∀ W, Calls Try.prog 45 #[.int .i64 now, grV c] W fun e w' => e = .returned (.bool (!(liveG now c))) ∧ Below W.heap.size W w' := fun W => outlives_any now c W
  generalize isG tp si c = bi at *
  generalize liveG now c = bl at *
  obtain ⟨ke, na, va⟩ := c
  unfold grV leaveV at *
  dsimp only at *
  have KH : Hid (∀ W, Calls Try.prog 44 #[.agg #[.string tp, .string si], .agg #[.string ke, .string na, .int .i64 va]] W fun e w' => e = .returned (.bool bi) ∧ Below W.heap.size W w') := KH0
  have KO : Hid (∀ W, Calls Try.prog 45 #[.int .i64 now, .agg #[.string ke, .string na, .int .i64 va]] W fun e w' => e = .returned (.bool (!bl)) ∧ Below W.heap.size W w') := KO0
  clear KH0 KO0
  obtain ⟨W0, hW⟩ : ∃ W0, W0 = w.alloc (.cells #[.string ke, .string na, .int .i64 va] 64) := ⟨_, rfl⟩
  have hW0 : Hid (W0 = w.alloc (.cells #[.string ke, .string na, .int .i64 va] 64)) := hW
  have A0 : Below w.heap.size w W0 := by rw [hW]; exact (Below.refl _ _).alloc (Nat.le_refl _) _
  have B0 : Hid (Below w.heap.size w W0) := A0
  have g0 : W0.cell? ⟨w.heap.size, 0, none⟩ = some (.string ke) := by rw [hW]; simp
  have g1 : W0.cell? ⟨w.heap.size, 1, none⟩ = some (.string na) := by rw [hW]; simp
  have g2 : W0.cell? ⟨w.heap.size, 2, none⟩ = some (.int .i64 va) := by rw [hW]; simp
  have zw : w.heap.size < W0.heap.size := by rw [hW]; simp
  have k0 : W0.cell? ⟨b1, 0, none⟩ = some (.string tp) := ((bcell A0).1 _ _ z1).trans h0
  have k1 : W0.cell? ⟨b1, 1, none⟩ = some (.string si) := ((bcell A0).1 _ _ z1).trans h1
  have k2 : W0.cell? ⟨b2, 0, none⟩ = some (.int .i64 now) := ((bcell A0).1 _ _ z2).trans h2
  have z22 : b2 < W0.heap.size := Nat.lt_trans z2 zw
  clear hW A0 h0 h1 h2
  go_enter Try.func43, Try.ntmps43
  go_upto_region 1 with fail
  rw [← hW0.out]
  clear hW0
  generalize hbb : w.heap.size = b at *
  go_wp2_with fail
  refine (KH.out _).mono ?_
  rintro e w1 ⟨rfl, hb1⟩
  have x0 : w1.cell? ⟨b, 0, none⟩ = some (.string ke) := ((bcell hb1).1 _ _ zw).trans g0
  have x1 : w1.cell? ⟨b, 1, none⟩ = some (.string na) := ((bcell hb1).1 _ _ zw).trans g1
  have x2 : w1.cell? ⟨b, 2, none⟩ = some (.int .i64 va) := ((bcell hb1).1 _ _ zw).trans g2
  have x3 : w1.cell? ⟨b2, 0, none⟩ = some (.int .i64 now) := ((bcell hb1).1 _ _ z22).trans k2
  have B1 : Hid (Below b w w1) := B0.out.trans (hb1.mono (Nat.le_of_lt zw))
  have zw1 : b < w1.heap.size := Nat.lt_of_lt_of_le zw hb1.size
  clear hb1 g0 g1 g2 k0 k1 k2 KH B0
  cases bi with
  | true =>
    go_wp2
    go_ret
    exact ⟨rfl, by rw [hbb]; exact B1.out⟩
  | false =>
    go_wp2_with fail
    refine (KO.out _).mono ?_
    rintro e w2 ⟨rfl, hb2⟩
    have B2 : Hid (Below b w w2) := B1.out.trans (hb2.mono (Nat.le_of_lt zw1))
    clear hb2
    go_wp2
    go_ret
    exact ⟨ret_bool (by cases bl <;> rfl), by rw [hbb]; exact B2.out⟩
set_option maxRecDepth 10000 in
set_option maxHeartbeats 2000000 in
theorem mayAsk_any (v : Value) (L : List Gr) (tp si : ByteArray) (now : Int) (B : Nat) (w : World) (hs : SliceG w B v L) (hn : L.length ≤ 1048576) :
    Calls Try.prog 40 #[v, leaveV tp si, .int .i64 now] w fun e w' => e = .returned (.bool (mayG L tp si now)) ∧ Below w.heap.size w w' := by
  have KG : Hid (∀ W, Below w.heap.size w W → Calls Try.prog 26 #[v] W fun e w' => e = .returned (.bool (grantsB L)) ∧ Below W.heap.size W w') := fun W hb => grantsRight_any v L B W (hs.below hb) hn
  have KR0 : ∀ W, Calls Try.prog 56 #[leaveV tp si] W fun e w' => e = .returned (.bool (siteG tp && siteG si)) ∧ Below W.heap.size W w' := fun W => leaveRight_any tp si W
  have KT : Hid (∀ W, Calls Try.prog 63 #[.int .i64 now] W fun e w' => e = .returned (.bool (timeG now)) ∧ w' = W) := fun W => isTimeG_any now W
  have HM : Hid (mayG L tp si now = (grantsB L && (siteG tp && siteG si) && timeG now)) := by show _ = _; unfold mayG; rw [Bool.and_assoc (grantsB L)]
  clear hs
  generalize mayG L tp si now = R at *
  generalize grantsB L = r1 at *
  generalize (siteG tp && siteG si) = r2 at *
  generalize timeG now = r3 at *
  unfold leaveV at *
  have KR : Hid (∀ W, Calls Try.prog 56 #[.agg #[.string tp, .string si]] W fun e w' => e = .returned (.bool r2) ∧ Below W.heap.size W w') := KR0
  clear KR0
  obtain ⟨W0, hW⟩ : ∃ W0, W0 = w.alloc (.cells #[.string tp, .string si] 60) := ⟨_, rfl⟩
  have hW0 : Hid (W0 = w.alloc (.cells #[.string tp, .string si] 60)) := hW
  have B0 : Hid (Below w.heap.size w W0) := by show Below _ _ _; rw [hW]; exact (Below.refl _ _).alloc (Nat.le_refl _) _
  have g0 : W0.cell? ⟨w.heap.size, 0, none⟩ = some (.string tp) := by rw [hW]; simp
  have g1 : W0.cell? ⟨w.heap.size, 1, none⟩ = some (.string si) := by rw [hW]; simp
  have zw : w.heap.size < W0.heap.size := by rw [hW]; simp
  clear hW
  go_enter Try.func40, Try.ntmps40
  go_upto_region 1 with fail
  rw [← hW0.out]
  clear hW0
  generalize hbb : w.heap.size = b at *
  go_wp2_with fail
  refine (KG.out _ B0.out).mono ?_
  rintro e w1 ⟨rfl, hb1⟩
  have x0 : w1.cell? ⟨b, 0, none⟩ = some (.string tp) := ((bcell hb1).1 _ _ zw).trans g0
  have x1 : w1.cell? ⟨b, 1, none⟩ = some (.string si) := ((bcell hb1).1 _ _ zw).trans g1
  have B1 : Hid (Below b w w1) := B0.out.trans (hb1.mono (Nat.le_of_lt zw))
  have zw1 : b < w1.heap.size := Nat.lt_of_lt_of_le zw hb1.size
  clear hb1 g0 g1 KG B0
  cases r1 with
  | false =>
    go_wp2
    go_ret
    exact ⟨ret_bool HM.out.symm, by rw [hbb]; exact B1.out⟩
  | true =>
    go_wp2_with fail
    refine (KR.out _).mono ?_
    rintro e w2 ⟨rfl, hb2⟩
    have B2 : Hid (Below b w w2) := B1.out.trans (hb2.mono (Nat.le_of_lt zw1))
    clear hb2
    cases r2 with
    | false =>
      go_wp2
      go_ret
      exact ⟨ret_bool HM.out.symm, by rw [hbb]; exact B2.out⟩
    | true =>
      go_wp2_with fail
      refine (KT.out _).mono ?_
      rintro e w3 ⟨rfl, rfl⟩
      go_wp2
      go_ret
      exact ⟨ret_bool HM.out.symm, by rw [hbb]; exact B2.out⟩
set_option maxRecDepth 10000 in
set_option maxHeartbeats 2000000 in
theorem liveIn_any (v : Value) (L : List Gr) (tp si : ByteArray) (now : Int) (B : Nat) (w : World) (hs : SliceG w B v L) (hn : L.length ≤ 1048576) :
    Calls Try.prog 65 #[leaveV tp si, v, .int .i64 now] w fun e w' => e = .returned (.bool (hereG L tp si now)) ∧ Below w.heap.size w w' := by
  have HH : Hid (hereG L tp si now = L.any (fun g => isG tp si g && liveG now g)) := rfl
  obtain ⟨W0, hW⟩ : ∃ W0, W0 = (w.alloc (.cells #[.string tp, .string si] 60)).alloc (.cells #[.int .i64 now] 67) := ⟨_, rfl⟩
  have hW0 : Hid (W0 = (w.alloc (.cells #[.string tp, .string si] 60)).alloc (.cells #[.int .i64 now] 67)) := hW
  have A0 : Below w.heap.size w W0 := by rw [hW]; exact ((Below.refl _ _).alloc (Nat.le_refl _) _).alloc (by simp) _
  have B0 : Hid (Below w.heap.size w W0) := A0
  have g0 : W0.cell? ⟨w.heap.size, 0, none⟩ = some (.string tp) := by rw [hW]; simp
  have g1 : W0.cell? ⟨w.heap.size, 1, none⟩ = some (.string si) := by rw [hW]; simp
  have g2 : W0.cell? ⟨w.heap.size + 1, 0, none⟩ = some (.int .i64 now) := by rw [hW]; exact (World.cell?_alloc_at _ _ _ _ (by simp)).trans rfl
  have z1 : w.heap.size < W0.heap.size := by rw [hW]; simp; omega
  have z2 : w.heap.size + 1 < W0.heap.size := by rw [hW]; simp
  obtain ⟨⟨q, cap, hv, hg⟩, hrest⟩ := id hs
  subst hv
  have KC : Hid (Calls Try.prog 86 #[.slice q L.length cap, .func (.func 87) #[] #[.pointer (some ⟨w.heap.size, 0, none⟩), .pointer (some ⟨w.heap.size + 1, 0, none⟩)]] W0 fun e w' => e = .returned (.bool (L.any (fun g => isG tp si g && liveG now g))) ∧ Below W0.heap.size W0 w') :=
    containsLive_any w.heap.size (w.heap.size + 1) (fun g => isG tp si g && liveG now g) q cap B L W0 (hs.below A0) hn (fun c W hb => liveIn1_any _ _ tp si now c W (Nat.lt_of_lt_of_le z1 hb.size) (Nat.lt_of_lt_of_le z2 hb.size) (((bcell hb).1 _ _ z1).trans g0) (((bcell hb).1 _ _ z1).trans g1) (((bcell hb).1 _ _ z2).trans g2))
  have hmf : ∀ (fn : Fn) (first cap : Array Value) (w : World), (Instr.makeFunc fn first cap).run Try.prog w = .ok (.func fn first cap) w := fun _ _ _ _ => rfl
  clear hW A0 hg hrest hs
  generalize hereG L tp si now = R at *
  generalize L.any (fun g => isG tp si g && liveG now g) = Y at *
  generalize L.length = n at *
  unfold leaveV
  go_enter Try.func65, Try.ntmps65
  go_upto_region 1 with fail
  rw [← hW0.out]
  clear hW0
  generalize hbb : w.heap.size = b at *
  go_wp2_with fail
  refine KC.out.mono ?_
  rintro e w2 ⟨rfl, hb2⟩
  have B2 : Hid (Below b w w2) := B0.out.trans (hb2.mono (Nat.le_of_lt z1))
  clear hb2
  go_wp2
  go_ret
  exact ⟨ret_bool HH.out.symm, by rw [hbb]; exact B2.out⟩
set_option maxRecDepth 10000 in
set_option maxHeartbeats 2000000 in
theorem grantLive_any (v : Value) (L : List Gr) (tp si : ByteArray) (now : Int) (B : Nat) (w : World) (hs : SliceG w B v L) (hn : L.length ≤ 1048576) :
    Calls Try.prog 24 #[v, .string tp, .string si, .int .i64 now] w fun e w' => e = .returned (.bool (liveB8 L tp si now)) ∧ Below w.heap.size w w' := by
  have KM0 : ∀ W, Below w.heap.size w W → Calls Try.prog 40 #[v, leaveV tp si, .int .i64 now] W fun e w' => e = .returned (.bool (mayG L tp si now)) ∧ Below W.heap.size W w' := fun W hb => mayAsk_any v L tp si now B W (hs.below hb) hn
  have KI0 : ∀ W, Below w.heap.size w W → Calls Try.prog 65 #[leaveV tp si, v, .int .i64 now] W fun e w' => e = .returned (.bool (hereG L tp si now)) ∧ Below W.heap.size W w' := fun W hb => liveIn_any v L tp si now B W (hs.below hb) hn
  have HM : Hid (liveB8 L tp si now = (mayG L tp si now && hereG L tp si now)) := rfl
  clear hs
  generalize liveB8 L tp si now = R at *
  generalize mayG L tp si now = r1 at *
  generalize hereG L tp si now = r2 at *
  unfold leaveV at *
  have KM : Hid (∀ W, Below w.heap.size w W → Calls Try.prog 40 #[v, .agg #[.string tp, .string si], .int .i64 now] W fun e w' => e = .returned (.bool r1) ∧ Below W.heap.size W w') := KM0
  have KI : Hid (∀ W, Below w.heap.size w W → Calls Try.prog 65 #[.agg #[.string tp, .string si], v, .int .i64 now] W fun e w' => e = .returned (.bool r2) ∧ Below W.heap.size W w') := KI0
  clear KM0 KI0
  obtain ⟨W0, hW⟩ : ∃ W0, W0 = w.alloc (.cells #[.string tp, .string si] 60) := ⟨_, rfl⟩
  have hW0 : Hid (W0 = w.alloc (.cells #[.string tp, .string si] 60)) := hW
  have B0 : Hid (Below w.heap.size w W0) := by show Below _ _ _; rw [hW]; exact (Below.refl _ _).alloc (Nat.le_refl _) _
  have g0 : W0.cell? ⟨w.heap.size, 0, none⟩ = some (.string tp) := by rw [hW]; simp
  have g1 : W0.cell? ⟨w.heap.size, 1, none⟩ = some (.string si) := by rw [hW]; simp
  have zw : w.heap.size < W0.heap.size := by rw [hW]; simp
  clear hW
  go_enter Try.func24, Try.ntmps24
  go_upto_region 2 with fail
  rw [← hW0.out]
  clear hW0
  generalize hbb : w.heap.size = b at *
  go_wp2_with fail
  refine (KM.out _ B0.out).mono ?_
  rintro e w1 ⟨rfl, hb1⟩
  have x0 : w1.cell? ⟨b, 0, none⟩ = some (.string tp) := ((bcell hb1).1 _ _ zw).trans g0
  have x1 : w1.cell? ⟨b, 1, none⟩ = some (.string si) := ((bcell hb1).1 _ _ zw).trans g1
  have B1 : Hid (Below b w w1) := B0.out.trans (hb1.mono (Nat.le_of_lt zw))
  have zw1 : b < w1.heap.size := Nat.lt_of_lt_of_le zw hb1.size
  clear hb1 g0 g1 KM B0
  cases r1 with
  | false =>
    go_wp2
    go_ret
    exact ⟨ret_bool HM.out.symm, by rw [hbb]; exact B1.out⟩
  | true =>
    go_wp2_with fail
    refine (KI.out _ B1.out).mono ?_
    rintro e w2 ⟨rfl, hb2⟩
    have B2 : Hid (Below b w w2) := B1.out.trans (hb2.mono (Nat.le_of_lt zw1))
    clear hb2
    go_wp2
    go_ret
    exact ⟨ret_bool HM.out.symm, by rw [hbb]; exact B2.out⟩
end Go.Proofs.Ytecaeolgheefmaa

/- The walk of together: two texts put together in new memory. -/
namespace Go.Proofs.Ytecaeolgheefmaa
open Go.RowKit


set_option maxRecDepth 10000 in
set_option maxHeartbeats 400000 in
theorem together_full (x y : ByteArray) (w : World) (hz : x.size + y.size ≤ 1000000) (hy : ¬ y = ByteArray.empty) :
    Calls Try.prog 75 #[.string x, .string y] w fun e w' => e = .returned (.string (x ++ y)) ∧ Below w.heap.size w w' := by
  obtain ⟨w1, Z, hmk, HG1, hZ, hs1, hb1⟩ := make_row (P := Try.prog) w 22 5 _ Try.underlying22 infoU8 ((x.size : Int) + (y.size : Int)) (x.size + y.size) (by omega) (by omega)
  go_enter Try.func75, Try.ntmps75
  go_wp2_with fail
  obtain ⟨w2, hc2, HG2, hs2, hB2⟩ := copy_text (P := Try.prog) w1 22 9 3 5 Try.underlying22 sizeU8 (some ⟨w.heap.size, 0, none⟩) (x.size + y.size) (x.size + y.size) x (by omega) w.heap.size 0 Z _ HG1 (fun _ => rfl) (by omega)
  have hb2 := hB2 _ _ hb1 (Nat.le_refl _)
  rw [hc2]
  clear hc2 hmk hB2 HG1 hb1
  go_wp2_with fail
  have hl2 : (splice Z 0 (Lib.byteCells x.data.toList)).length = x.size + y.size := by rw [length_splice _ _ _ (by rw [len_cells]; omega), hZ]
  obtain ⟨w3, hc3, HG3, hs3, hB3⟩ := copy_text (P := Try.prog) w2 22 9 3 5 Try.underlying22 sizeU8 (some ⟨w.heap.size, x.size, none⟩) y.size y.size y (by omega) w.heap.size x.size _ _ HG2 (fun _ => rfl) (by omega)
  have hb3 := hB3 _ _ hb2 (Nat.le_refl _)
  have HG4 : RowAt w3 w.heap.size 5 (Lib.byteCells (x.data.toList ++ y.data.toList) ++ []) := by
    have e := splice_two Z (Lib.byteCells x.data.toList) (Lib.byteCells y.data.toList) (by rw [len_cells, len_cells]; exact hZ)
    rw [len_cells] at e
    rw [e, ← byteCells_append, ← List.append_nil (Lib.byteCells _)] at HG3
    exact HG3
  rw [hc3]
  clear hc3 hB3 HG2 HG3 hb2 hl2
  go_wp2_with fail
  rw [text_of_row (P := Try.prog) w3 22 9 5 Try.underlying22 Try.underlying5 Try.underlying9 w.heap.size (x.size + y.size) (x.size + y.size) 5 _ _ HG4 (by rw [List.length_append, ← Lib.size_eq, ← Lib.size_eq])]
  go_wp2
  go_ret
  exact ⟨ret_text (text_append x y), hb3⟩

set_option maxRecDepth 10000 in
set_option maxHeartbeats 400000 in
theorem together_empty (x : ByteArray) (w : World) (hz : x.size ≤ 1000000) :
    Calls Try.prog 75 #[.string x, .string ByteArray.empty] w fun e w' => e = .returned (.string x) ∧ Below w.heap.size w w' := by
  obtain ⟨w1, Z, hmk, HG1, hZ, hs1, hb1⟩ := make_row (P := Try.prog) w 22 5 _ Try.underlying22 infoU8 (x.size : Int) x.size (by omega) (by omega)
  go_enter Try.func75, Try.ntmps75
  go_wp2_with fail
  obtain ⟨w2, hc2, HG2, hs2, hB2⟩ := copy_text (P := Try.prog) w1 22 9 3 5 Try.underlying22 sizeU8 (some ⟨w.heap.size, 0, none⟩) x.size x.size x (by omega) w.heap.size 0 Z _ HG1 (fun _ => rfl) (by omega)
  have hb2 := hB2 _ _ hb1 (Nat.le_refl _)
  rw [hc2]
  clear hc2 hmk hB2 HG1 hb1
  go_wp2_with fail
  have HG4 : RowAt w2 w.heap.size 5 (Lib.byteCells x.data.toList ++ []) := by
    have e : splice Z 0 (Lib.byteCells x.data.toList) = Lib.byteCells x.data.toList ++ [] := by
      unfold splice
      rw [List.drop_eq_nil_of_le (by rw [len_cells]; omega)]
      simp
    rw [e] at HG2
    exact HG2
  rw [Lib.run_copy_empty_string (P := Try.prog) w2 22 9 3 5 (some ⟨w.heap.size, 0, none⟩) 0 0 ByteArray.empty Try.underlying22 (by rw [Option.isSome_iff_exists]; exact ⟨1, sizeU8⟩) rfl]
  go_wp2_with fail
  rw [text_of_row (P := Try.prog) w2 22 9 5 Try.underlying22 Try.underlying5 Try.underlying9 w.heap.size x.size x.size 5 _ _ HG4 (by rw [← Lib.size_eq])]
  go_wp2
  go_ret
  exact ⟨rfl, hb2⟩
theorem together_any (x y : ByteArray) (w : World) (hz : x.size + y.size ≤ 1000000) :
    Calls Try.prog 75 #[.string x, .string y] w fun e w' => e = .returned (.string (x ++ y)) ∧ Below w.heap.size w w' := by
  by_cases hy : y = ByteArray.empty
  · subst hy
    rw [ByteArray.append_empty]
    exact together_empty x w (by omega)
  · exact together_full x y w hz hy

end Go.Proofs.Ytecaeolgheefmaa

/- The walks of the program's grantCopy and grantCopies. Written by implleave2.py. -/
namespace Go.Proofs.Ytecaeolgheefmaa
open Go.RowKit

set_option maxRecDepth 10000 in
set_option maxHeartbeats 8000000 in
theorem grantCopy_any (c : Gr) (w : World) (h0 : c.tp.size ≤ 1000000) (h1 : c.si.size ≤ 1000000) :
    Calls Try.prog 46 #[grV c] w fun e w' => e = .returned (grV c) ∧ Below w.heap.size w w' := by
  obtain ⟨ke, na, va⟩ := c
  unfold grV
  dsimp only at h0 h1 ⊢
  have K0 : Hid (∀ W, Calls Try.prog 75 #[.string ke, .string ⟨#[]⟩] W fun e w' => e = .returned (.string ke) ∧ Below W.heap.size W w') := fun W => together_empty ke W (by omega)
  have K1 : Hid (∀ W, Calls Try.prog 75 #[.string na, .string ⟨#[]⟩] W fun e w' => e = .returned (.string na) ∧ Below W.heap.size W w') := fun W => together_empty na W (by omega)
  obtain ⟨W0, hW⟩ : ∃ W0, W0 = ((w.alloc (.cells #[.string ke, .string na, .int .i64 va] 64)).alloc (.cells #[.string ⟨#[]⟩, .string ⟨#[]⟩, .int .i64 0] 64)) := ⟨_, rfl⟩
  have hW0 : Hid (W0 = ((w.alloc (.cells #[.string ke, .string na, .int .i64 va] 64)).alloc (.cells #[.string ⟨#[]⟩, .string ⟨#[]⟩, .int .i64 0] 64))) := hW
  have HB : Hid (Below w.heap.size w W0) := by show Below _ _ _; rw [hW]; exact ((Below.refl _ _).alloc (Nat.le_refl _) _).alloc (by simp) _
  have z1 : w.heap.size + 1 < W0.heap.size := by rw [hW]; simp
  have c0 : W0.cell? ⟨w.heap.size, 0, none⟩ = some (.string ke) := by rw [hW]; simp
  have c1 : W0.cell? ⟨w.heap.size, 1, none⟩ = some (.string na) := by rw [hW]; simp
  have c2 : W0.cell? ⟨w.heap.size, 2, none⟩ = some (.int .i64 va) := by rw [hW]; simp
  have d0 : W0.cell? ⟨w.heap.size + 1, 0, none⟩ = some (.string ⟨#[]⟩) := by rw [hW]; exact (World.cell?_alloc_at _ _ _ _ (by simp)).trans rfl
  have d1 : W0.cell? ⟨w.heap.size + 1, 1, none⟩ = some (.string ⟨#[]⟩) := by rw [hW]; exact (World.cell?_alloc_at _ _ _ _ (by simp)).trans rfl
  have d2 : W0.cell? ⟨w.heap.size + 1, 2, none⟩ = some (.int .i64 0) := by rw [hW]; exact (World.cell?_alloc_at _ _ _ _ (by simp)).trans rfl
  have fz : ∀ o, W0.frozen? ⟨w.heap.size + 1, o, none⟩ = false := by rw [hW]; exact fun o => World.frozen?_alloc_at _ _ _ _ (by simp)
  have f0 := fz 0
  have f1 := fz 1
  have f2 := fz 2
  clear hW h0 h1 fz
  go_enter Try.func46, Try.ntmps46
  go_upto_region 1 with fail
  rw [← hW0.out]
  clear hW0
  generalize hbb : w.heap.size = b at *
  have hb1 : b < W0.heap.size := by omega
  refine wp_region_held_drew (S := (fun w' => w'.cell? ⟨b, 0, none⟩ = some (.string ke) ∧ w'.cell? ⟨b, 1, none⟩ = some (.string na) ∧ w'.cell? ⟨b, 2, none⟩ = some (.int .i64 va))) (by kernel_rfl) ?_ (fun hH0 => ?_)
  · (try dsimp only)
    go_keep
  refine wpAnyH_take (i := 0) (oi := { dst := some 3, op := Op.fieldAddr 64 (Operand.tmp 1) 0, type := 0, pos := "l08_grant.go:65", after := #[], guard := none }) (v := ?va0) rfl (by kernel_rfl) (by kernel_rfl) (by kernel_rfl) (fun _ _ _ h => h) (Or.inl ⟨by rfl, ?hya0⟩) (by assumption) ?resta0
  case hya0 =>
    intro w hSw
    (try dsimp only at hSw)
    go_simp
    try with_reducible rfl
  try simp only [Act.put, List.setIfInBounds_toArray, List.set_cons_zero, List.set_cons_succ]
  refine wpAnyH_take (i := 1) (oi := { dst := some 4, op := Op.load 9 (Operand.tmp 3), type := 9, pos := "l08_grant.go:65", after := #[{ on := 0, ground := Ground.data }], guard := none }) (v := ?va1) rfl (by kernel_rfl) (by kernel_rfl) (by kernel_rfl) (fun _ _ _ h => h) (Or.inl ⟨by rfl, ?hya1⟩) (by assumption) ?resta1
  case hya1 =>
    intro w hSw
    (try dsimp only at hSw)
    go_simp
    try with_reducible rfl
  try simp only [Act.put, List.setIfInBounds_toArray, List.set_cons_zero, List.set_cons_succ]
  refine wpAnyH_take (i := 3) (oi := { dst := some 6, op := Op.fieldAddr 64 (Operand.tmp 1) 1, type := 0, pos := "l08_grant.go:65", after := #[], guard := none }) (v := ?va3) rfl (by kernel_rfl) (by kernel_rfl) (by kernel_rfl) (fun _ _ _ h => h) (Or.inl ⟨by rfl, ?hya3⟩) (by assumption) ?resta3
  case hya3 =>
    intro w hSw
    (try dsimp only at hSw)
    go_simp
    try with_reducible rfl
  try simp only [Act.put, List.setIfInBounds_toArray, List.set_cons_zero, List.set_cons_succ]
  refine wpAnyH_take (i := 4) (oi := { dst := some 7, op := Op.load 9 (Operand.tmp 6), type := 9, pos := "l08_grant.go:65", after := #[{ on := 3, ground := Ground.data }], guard := none }) (v := ?va4) rfl (by kernel_rfl) (by kernel_rfl) (by kernel_rfl) (fun _ _ _ h => h) (Or.inl ⟨by rfl, ?hya4⟩) (by assumption) ?resta4
  case hya4 =>
    intro w hSw
    (try dsimp only at hSw)
    go_simp
    try with_reducible rfl
  try simp only [Act.put, List.setIfInBounds_toArray, List.set_cons_zero, List.set_cons_succ]
  refine wpAnyH_take (i := 6) (oi := { dst := some 9, op := Op.fieldAddr 64 (Operand.tmp 1) 2, type := 0, pos := "l08_grant.go:65", after := #[], guard := none }) (v := ?va6) rfl (by kernel_rfl) (by kernel_rfl) (by kernel_rfl) (fun _ _ _ h => h) (Or.inl ⟨by rfl, ?hya6⟩) (by assumption) ?resta6
  case hya6 =>
    intro w hSw
    (try dsimp only at hSw)
    go_simp
    try with_reducible rfl
  try simp only [Act.put, List.setIfInBounds_toArray, List.set_cons_zero, List.set_cons_succ]
  refine wpAnyH_take (i := 7) (oi := { dst := some 10, op := Op.load 2 (Operand.tmp 9), type := 2, pos := "l08_grant.go:65", after := #[{ on := 6, ground := Ground.data }], guard := none }) (v := ?va7) rfl (by kernel_rfl) (by kernel_rfl) (by kernel_rfl) (fun _ _ _ h => h) (Or.inl ⟨by rfl, ?hya7⟩) (by assumption) ?resta7
  case hya7 =>
    intro w hSw
    (try dsimp only at hSw)
    go_simp
    try with_reducible rfl
  try simp only [Act.put, List.setIfInBounds_toArray, List.set_cons_zero, List.set_cons_succ]
  refine wpAnyH_ready (rs := [2]) (by kernel_rfl) (by simp) ?_
  refine AllReadyH.cons (o := { dst := some 5, op := Op.call { callee := Callee.value (Operand.func 75), args := #[Operand.tmp 4, Operand.const (Value.string { data := #[] })], argTypes := #[9, 9] }, type := 9, pos := "l08_grant.go:65", after := #[{ on := 1, ground := Ground.data }], guard := none }) rfl (fun K hK => ?_) AllReadyH.nil
  go_simp
  (go_at_call 75; refine (K0.out _).mono ?_; rintro e w1 ⟨rfl, hq1⟩; have A1 : Below W0.heap.size W0 w1 := (Below.drew (Below.refl _ _)).trans hq1; have x0 : w1.cell? ⟨b, 0, none⟩ = some (.string ke) := ((bcell A1).1 _ _ hb1).trans c0; have x1 : w1.cell? ⟨b, 1, none⟩ = some (.string na) := ((bcell A1).1 _ _ hb1).trans c1; have x2 : w1.cell? ⟨b, 2, none⟩ = some (.int .i64 va) := ((bcell A1).1 _ _ hb1).trans c2)
  try (go_wp2_with fail)
  refine hK.out _ _ ?_ (fun hH1 => ?_)
  · (try dsimp only)
    go_keep
  clear hK K hH0
  try simp only [Act.put, List.setIfInBounds_toArray, List.set_cons_zero, List.set_cons_succ]
  refine wpAnyH_ready (rs := [5]) (by kernel_rfl) (by simp) ?_
  refine AllReadyH.cons (o := { dst := some 8, op := Op.call { callee := Callee.value (Operand.func 75), args := #[Operand.tmp 7, Operand.const (Value.string { data := #[] })], argTypes := #[9, 9] }, type := 9, pos := "l08_grant.go:65", after := #[{ on := 4, ground := Ground.data }, { on := 2, ground := Ground.chain }], guard := none }) rfl (fun K hK => ?_) AllReadyH.nil
  go_simp
  (go_at_call 75; refine (K1.out _).mono ?_; rintro e w2 ⟨rfl, hq2⟩; have A2 : Below W0.heap.size W0 w2 := A1.trans (hq2.mono A1.size); have y0 : w2.cell? ⟨b, 0, none⟩ = some (.string ke) := ((bcell A2).1 _ _ hb1).trans c0; have y1 : w2.cell? ⟨b, 1, none⟩ = some (.string na) := ((bcell A2).1 _ _ hb1).trans c1; have y2 : w2.cell? ⟨b, 2, none⟩ = some (.int .i64 va) := ((bcell A2).1 _ _ hb1).trans c2; have r0 : w2.cell? ⟨b + 1, 0, none⟩ = some (.string ⟨#[]⟩) := ((bcell A2).1 _ _ z1).trans d0; have s0 : w2.frozen? ⟨b + 1, 0, none⟩ = false := ((bcell A2).2 _ _ z1).trans f0; have r1 : w2.cell? ⟨b + 1, 1, none⟩ = some (.string ⟨#[]⟩) := ((bcell A2).1 _ _ z1).trans d1; have s1 : w2.frozen? ⟨b + 1, 1, none⟩ = false := ((bcell A2).2 _ _ z1).trans f1; have r2 : w2.cell? ⟨b + 1, 2, none⟩ = some (.int .i64 0) := ((bcell A2).1 _ _ z1).trans d2; have s2 : w2.frozen? ⟨b + 1, 2, none⟩ = false := ((bcell A2).2 _ _ z1).trans f2)
  try (go_wp2_with fail)
  refine hK.out _ _ ?_ (fun hH2 => ?_)
  · (try dsimp only)
    go_keep
  clear hK K hH1
  try simp only [Act.put, List.setIfInBounds_toArray, List.set_cons_zero, List.set_cons_succ]
  refine wpAnyH_take (i := 8) (oi := { dst := some 11, op := Op.build 64 #[(0, Operand.tmp 5), (1, Operand.tmp 8), (2, Operand.tmp 10)], type := 64, pos := "l08_grant.go:65", after := #[{ on := 2, ground := Ground.data }, { on := 5, ground := Ground.data }, { on := 7, ground := Ground.data }], guard := none }) (v := ?va8) rfl (by kernel_rfl) (by kernel_rfl) (by kernel_rfl) (fun _ _ _ h => h) (Or.inl ⟨by rfl, ?hya8⟩) (by assumption) ?resta8
  case hya8 =>
    intro w hSw
    (try dsimp only at hSw)
    go_simp
    try with_reducible rfl
  try simp only [Act.put, List.setIfInBounds_toArray, List.set_cons_zero, List.set_cons_succ]
  refine wpAnyH_ready (rs := [9]) (by kernel_rfl) (by simp) ?_
  refine AllReadyH.cons (o := { dst := none, op := Op.store 64 (Operand.tmp 2) (Operand.tmp 11), type := 0, pos := "l08_grant.go:65", after := #[{ on := 8, ground := Ground.data }, { on := 5, ground := Ground.chain }, { on := 0, ground := Ground.phase }, { on := 1, ground := Ground.phase }, { on := 2, ground := Ground.phase }, { on := 3, ground := Ground.phase }, { on := 4, ground := Ground.phase }, { on := 5, ground := Ground.phase }, { on := 6, ground := Ground.phase }, { on := 7, ground := Ground.phase }, { on := 8, ground := Ground.phase }], guard := none }) rfl (fun K hK => ?_) AllReadyH.nil
  go_simp
  (skip)
  try (go_wp2_with fail)
  refine hK.out _ _ ?_ (fun hH3 => ?_)
  · (try dsimp only)
    go_keep
  clear hK K hH2
  try simp only [Act.put, List.setIfInBounds_toArray, List.set_cons_zero, List.set_cons_succ]
  refine wpAnyH_done (by kernel_rfl) ?_ _
  all_goals go_wp2
  all_goals
    refine bodyPost_ret (v := .agg #[.string ke, .string na, .int .i64 va]) (by simp [results, Try.results46, go_sem, r0, r1, r2]) rfl ⟨rfl, ?_⟩
    have hB2 : Below b w w2 := HB.out.trans (A2.mono (by omega))
    rw [hbb]
    refine Below.setCell (Below.setCell (Below.setCell hB2 ?_ _) ?_ _) ?_ _ <;> exact Nat.le_add_right b 1
set_option maxRecDepth 10000 in
set_option maxHeartbeats 8000000 in
theorem grantCopiesP_any (v : Value) (L : List Gr) (B : Nat) (w : World) (hs : SliceG w B v L) (hn : L.length ≤ 1048576) (hz : ∀ i, i < L.length → (atG L i).tp.size ≤ 1000000 ∧ (atG L i).si.size ≤ 1000000) :
    Calls Try.prog 42 #[v] w fun e w' => ∃ v', e = .returned v' ∧ (SliceG w' w.heap.size v' L ∧ PlacedG v') ∧ Below w.heap.size w w' := by
  have KC : Hid (∀ j, j < L.length → ∀ W, Calls Try.prog 46 #[grV (atG L j)] W fun e w' => e = .returned (grV (atG L j)) ∧ Below W.heap.size W w') := fun j hj W => grantCopy_any (atG L j) W (hz j hj).1 (hz j hj).2
  have HSY : Hid (∀ k, k < L.length → ∀ (v : Value) (w' : World), w'.ownsRow w.heap.size 64 3 v (k + 1) (grCells (L.take k) ++ grVals (atG L k)) → w'.ownsRow w.heap.size 64 3 v (k + 1) (grCells (L.take (k + 1)))) := fun k hlt v w' h => by
    rw [List.take_succ_eq_append_getElem hlt, ← atG_get hlt, ← grCells_snoc]; exact h
  have HFin : Hid (∀ (v : Value) (w' : World), w'.ownsRow w.heap.size 64 3 v L.length (grCells (L.take L.length)) → (L.length = 0 → v = .slice none 0 0) → SliceG w' w.heap.size v L ∧ PlacedG v) := fun v w' h h0 => by
    rw [List.take_length] at h
    refine ⟨sliceG_of_own h, ?_⟩
    by_cases hz : L.length = 0
    · exact .inl (h0 hz)
    · obtain ⟨⟨p, c, e, hg⟩, p2, c2, e2, hc, -⟩ := sliceG_of_own h
      obtain ⟨g, rfl, -⟩ := hg (by omega)
      rw [e] at e2
      injection e2 with _ _ e3
      exact .inr ⟨g, L.length, c, e, by omega⟩
  obtain ⟨i0, hi, hy0, hy1, hy2⟩ := info_parts infoGrant
  obtain ⟨⟨q, cap, rfl, hg⟩, -⟩ := hs
  have HG : Hid (0 < L.length → ∃ g, q = some ⟨g, 0, none⟩ ∧ g < w.heap.size ∧ ∀ j, j < L.length → ∀ o, o < 3 → w.cell? ⟨g, j * 3 + o, none⟩ = some (grC (atG L j) o)) := fun h0 => by
    obtain ⟨g, e, -, hgw, hc⟩ := hg h0
    exact ⟨g, e, hgw, fun j hj o ho => (hc j hj o ho).1⟩
  clear hg hz
  go_enter Try.func42, Try.ntmps42
  go_wp2
  go_loopw [3, 8] (fun v i wr => ∃ k : Nat, k ≤ L.length ∧ i = .int .i64 k ∧ Hid (wr.ownsRow w.heap.size 64 3 v k (grCells (L.take k))) ∧ Hid (Below w.heap.size w wr) ∧ Hid (k = 0 → v = .slice none 0 0)) (fun _ i _ => L.length - (intOf i).toNat)
  case atStart => exact ⟨0, Nat.zero_le _, rfl, World.ownsRow_nil _ _ _ _, Below.refl _ _, fun _ => rfl⟩
  case round =>
    obtain ⟨k, hk, rfl, HO, HB, HN⟩ := hrel
    have hws : w.heap.size ≤ wr.heap.size := HB.out.size
    by_cases hlt : k < L.length
    · obtain ⟨g, rfl, hgw, hc⟩ := HG.out (by omega)
      have HC : Hid (∀ j, j < L.length → ∀ o, o < 3 → w.cell? ⟨g, j * 3 + o, none⟩ = some (grC (atG L j) o)) := hc
      have k0 : (0 : Int) ≤ k := by omega
      have k1 : (k : Int) < L.length := by omega
      have HKY := HSY.out k hlt
      have KC0 := KC.out k hlt
      clear hc
      have c0 : wr.cell? ⟨g, k * 3, none⟩ = some (.string (atG L k).tp) := by rw [(bcell HB.out).1 _ _ hgw]; exact HC.out k hlt 0 (by omega)
      have c1 : wr.cell? ⟨g, k * 3 + 1, none⟩ = some (.string (atG L k).si) := by rw [(bcell HB.out).1 _ _ hgw]; exact HC.out k hlt 1 (by omega)
      have c2 : wr.cell? ⟨g, k * 3 + 2, none⟩ = some (.int .i64 (atG L k).un) := by rw [(bcell HB.out).1 _ _ hgw]; exact HC.out k hlt 2 (by omega)
      generalize atG L k = y at *
      obtain ⟨ke, na, va⟩ := y
      unfold grV at KC0
      dsimp only at *
      generalize L.take k = Y at *
      obtain ⟨W0, hW⟩ : ∃ W0, W0 = wr.alloc (.cells #[.string ke, .string na, .int .i64 va] 64) := ⟨_, rfl⟩
      have hW0 : Hid (W0 = wr.alloc (.cells #[.string ke, .string na, .int .i64 va] 64)) := hW
      have HBr : Hid (Below wr.heap.size wr W0) := by show Below _ _ _; rw [hW]; exact (Below.refl _ _).alloc (Nat.le_refl _) _
      have n0 : W0.cell? ⟨wr.heap.size, 0, none⟩ = some (.string ke) := by rw [hW]; simp
      have n1 : W0.cell? ⟨wr.heap.size, 1, none⟩ = some (.string na) := by rw [hW]; simp
      have n2 : W0.cell? ⟨wr.heap.size, 2, none⟩ = some (.int .i64 va) := by rw [hW]; simp
      have hbW : wr.heap.size < W0.heap.size := by rw [hW]; simp
      have KC1 : Hid (∀ W, Calls Try.prog 46 #[.agg #[.string ke, .string na, .int .i64 va]] W fun e w' => e = .returned (.agg #[.string ke, .string na, .int .i64 va]) ∧ Below W.heap.size W w') := KC0
      have HKY1 : Hid (∀ (v : Value) (w' : World), w'.ownsRow w.heap.size 64 3 v (k + 1) (grCells Y ++ grVals ⟨ke, na, va⟩) → w'.ownsRow w.heap.size 64 3 v (k + 1) (grCells (L.take (k + 1)))) := HKY
      clear hW KC0 HKY
      go_upto_region 5 with fail
      rw [← hW0.out]
      clear hW0 c0 c1 c2
      generalize hbb : wr.heap.size = b at *
      go_wp2_with fail
      refine (KC1.out _).mono ?_
      rintro e w3 ⟨rfl, hb3⟩
      have A3 : Below b wr w3 := HBr.out.trans (hb3.mono (Nat.le_of_lt hbW))
      have O3 : Hid (∀ v : Value, wr.ownsRow w.heap.size 64 3 v k (grCells Y) → w3.ownsRow w.heap.size 64 3 v k (grCells Y)) := fun v h => ownR_below h (by rw [hbb]; exact A3)
      have B3 : Hid (Below w.heap.size w w3) := HB.out.trans (by rw [← hbb] at A3; exact A3.mono HB.out.size)
      have O4 : Hid (w3.ownsRow w.heap.size 64 3 _ k (grCells Y)) := O3.out _ HO.out
      have hw3 : w.heap.size ≤ w3.heap.size := B3.out.size
      clear hb3 A3 HO O3 HB HBr n0 n1 n2
      go_wp2_with (at_builtin; go_must (refine wpList_append_own _ rfl _ _ 23 rfl w.heap.size 64 i0 (.agg #[.string ⟨#[]⟩, .string ⟨#[]⟩, .int .i64 0]) 3 40 Try.underlying23 hi hy0 hy1 hy2 rfl (by decide) _ _ _ rfl (O4.out.alloc _) ⟨w3.heap.size, 0, none⟩ 1 1 (grVals ⟨ke, na, va⟩) rfl rfl (cell_Gr _ ⟨ke, na, va⟩ _) (one_Gr ⟨ke, na, va⟩) (by unfold maxLen; omega) (by omega) (by simp; omega) ?_))
      intro v1 w4 ho1 hg1 hn1
      have hb4 : Below w.heap.size w w4 := (B3.out.alloc B3.out.size _).grown hg1 (Nat.le_trans B3.out.size (by simp)) (fun j hj => own_base O4.out j hj)
      have O5 : Hid (w4.ownsRow w.heap.size 64 3 v1 (k + 1) (grCells (L.take (k + 1)))) := HKY1.out _ _ ho1
      have B4 : Hid (Below w.heap.size w w4) := hb4
      clear ho1 hg1 hn1 hb4
      go_wp2
      go_roundw
      case rel => exact ⟨k + 1, by omega, by go_num, O5, B4, fun h => absurd h (by omega)⟩
      case measure => simp [intOf]; omega
    · obtain rfl : k = L.length := by omega
      go_wp2
      go_ret
      exact ⟨_, rfl, HFin.out _ _ HO.out HN.out, HB.out⟩
theorem grantCopies_any (v : Value) (L : List Gr) (B : Nat) (w : World) (hs : SliceG w B v L) (hn : L.length ≤ 1048576) (hz : ∀ i, i < L.length → (atG L i).tp.size ≤ 1000000 ∧ (atG L i).si.size ≤ 1000000) :
    Calls Try.prog 42 #[v] w fun e w' => ∃ v', e = .returned v' ∧ SliceG w' w.heap.size v' L ∧ Below w.heap.size w w' := by
  refine (grantCopiesP_any v L B w hs hn hz).mono ?_
  rintro e w' ⟨v', h1, ⟨h2, -⟩, h3⟩
  exact ⟨v', h1, h2, h3⟩
end Go.Proofs.Ytecaeolgheefmaa

/- The walks of the program's GrantOld and GrantDrop. Written by specgrant2.py. -/
namespace Go.Proofs.Ytecaeolgheefmaa
open Go.RowKit

theorem grants_small {L : List Gr} (h : grantsB L = true) : ∀ i, i < L.length → (atG L i).tp.size ≤ 1000000 ∧ (atG L i).si.size ≤ 1000000 := fun i hi => by
  obtain ⟨h1, h2, -⟩ := grB_parts (okG_right ((grantsB_parts h).2 i hi))
  have a := (siteG_size h1).2
  have b := (siteG_size h2).2
  exact ⟨by omega, by omega⟩
set_option maxRecDepth 10000 in
set_option maxHeartbeats 4000000 in
theorem grantOld_any (v : Value) (L : List Gr) (now : Int) (B : Nat) (w : World) (hs : SliceG w B v L) (hn : L.length ≤ 1048576) :
    Calls Try.prog 22 #[v, .int .i64 now] w fun e w' => ∃ v', e = .returned v' ∧ SliceG w' w.heap.size v' (oldG L now) ∧ Below w.heap.size w w' := by
  have KG : Hid (Calls Try.prog 26 #[v] w fun e w' => e = .returned (.bool (grantsB L)) ∧ Below w.heap.size w w') := grantsRight_any v L B w hs hn
  have KT : Hid (∀ W, Calls Try.prog 63 #[.int .i64 now] W fun e w' => e = .returned (.bool (timeG now)) ∧ w' = W) := fun W => isTimeG_any now W
  have KC : Hid (grantsB L = true → ∀ W, Below w.heap.size w W → Calls Try.prog 42 #[v] W fun e w' => ∃ v', e = .returned v' ∧ SliceG w' W.heap.size v' L ∧ Below W.heap.size W w') := fun h W hb => grantCopies_any v L B W (hs.below hb) hn (grants_small h)
  have KD : Hid (grantsB L = true → ∀ (u : Value) (B : Nat) (W : World), SliceG W B u L → B ≤ W.heap.size → Calls Try.prog 41 #[u, .func (.func 45) #[.int .i64 now] #[]] W fun e w' => ∃ v', e = .returned v' ∧ SliceG w' B v' (L.filter (fun g => !!(liveG now g))) ∧ Below B W w') := fun h u B W h1 h2 => deleteOld_any now u B L W h1 h2 (by have := (grantsB_parts h).1; omega) (fun c W _ => outlives_any now c W)
  have HNo : Hid ((grantsB L && timeG now) = false → oldG L now = []) := fun h => by unfold oldG; rw [if_neg (by rw [h]; decide)]
  have HY : Hid ((grantsB L && timeG now) = true → oldG L now = L.filter (fun g => !!(liveG now g))) := fun h => by
    unfold oldG; rw [if_pos h]
    congr 1
    funext g
    rw [Bool.not_not]
  have hmf : ∀ (fn : Fn) (first cap : Array Value) (w : World), (Instr.makeFunc fn first cap).run Try.prog w = .ok (.func fn first cap) w := fun _ _ _ _ => rfl
  clear hs
  generalize oldG L now = Z at *
  generalize L.filter (fun g => !!(liveG now g)) = Y at *
  generalize grantsB L = r1 at *
  generalize timeG now = r2 at *
  go_enter Try.func22, Try.ntmps22
  go_wp2_with fail
  refine KG.out.mono ?_
  rintro e w1 ⟨rfl, hb1⟩
  have B1 : Hid (Below w.heap.size w w1) := hb1
  have hws : w.heap.size ≤ w1.heap.size := hb1.size
  clear hb1 KG
  cases r1 with
  | false =>
    have HZ : Hid (Z = []) := HNo.out rfl
    go_wp2
    go_ret
    exact ⟨_, rfl, by rw [HZ.out]; exact sliceG_none _ _, B1.out⟩
  | true =>
  have KC2 := KC.out rfl
  have KD2 := KD.out rfl
  have KC3 : Hid (∀ W, Below w.heap.size w W → Calls Try.prog 42 #[v] W fun e w' => ∃ v', e = .returned v' ∧ SliceG w' W.heap.size v' L ∧ Below W.heap.size W w') := KC2
  have KD3 : Hid (∀ (u : Value) (B : Nat) (W : World), SliceG W B u L → B ≤ W.heap.size → Calls Try.prog 41 #[u, .func (.func 45) #[.int .i64 now] #[]] W fun e w' => ∃ v', e = .returned v' ∧ SliceG w' B v' Y ∧ Below B W w') := KD2
  clear KC KD KC2 KD2
  go_wp2_with fail
  refine (KT.out _).mono ?_
  rintro e w2 ⟨rfl, rfl⟩
  cases r2 with
  | false =>
    have HZ : Hid (Z = []) := HNo.out rfl
    go_wp2
    go_ret
    exact ⟨_, rfl, by rw [HZ.out]; exact sliceG_none _ _, B1.out⟩
  | true =>
    have HZ : Hid (Z = Y) := HY.out rfl
    go_wp2_with fail
    refine (KC3.out _ B1.out).mono ?_
    rintro e w3 ⟨u3, rfl, hs3, hb3⟩
    have S3 : Hid (SliceG w3 w2.heap.size u3 L) := hs3
    have z3 : w2.heap.size ≤ w3.heap.size := hb3.size
    have B3 : Hid (Below w.heap.size w w3) := B1.out.trans (hb3.mono hws)
    clear hs3 hb3
    go_wp2_with fail
    refine (KD3.out _ _ _ S3.out z3).mono ?_
    rintro e w4 ⟨u4, rfl, hs4, hb4⟩
    have S4 : Hid (SliceG w4 w.heap.size u4 Z) := by show SliceG _ _ _ _; rw [HZ.out]; exact hs4.mono hws
    have B4 : Hid (Below w.heap.size w w4) := B3.out.trans (hb4.mono hws)
    clear hs4 hb4
    go_wp2
    go_ret
    exact ⟨_, rfl, S4.out, B4.out⟩
set_option maxRecDepth 10000 in
set_option maxHeartbeats 4000000 in
theorem grantDrop_any (v : Value) (L : List Gr) (tp si : ByteArray) (B : Nat) (w : World) (hs : SliceG w B v L) (hn : L.length ≤ 1048576) :
    Calls Try.prog 15 #[v, .string tp, .string si] w fun e w' => ∃ v', e = .returned v' ∧ SliceG w' w.heap.size v' (dropL L tp si) ∧ Below w.heap.size w w' := by
  have KG : Hid (∀ W, Below w.heap.size w W → Calls Try.prog 26 #[v] W fun e w' => e = .returned (.bool (grantsB L)) ∧ Below W.heap.size W w') := fun W hb => grantsRight_any v L B W (hs.below hb) hn
  have KR0 : ∀ W, Calls Try.prog 56 #[leaveV tp si] W fun e w' => e = .returned (.bool (siteG tp && siteG si)) ∧ Below W.heap.size W w' := fun W => leaveRight_any tp si W
  have KC : Hid (grantsB L = true → ∀ W, Below w.heap.size w W → Calls Try.prog 42 #[v] W fun e w' => ∃ v', e = .returned v' ∧ SliceG w' W.heap.size v' L ∧ Below W.heap.size W w') := fun h W hb => grantCopies_any v L B W (hs.below hb) hn (grants_small h)
  have KD0 : grantsB L = true → ∀ (u : Value) (B : Nat) (W : World), SliceG W B u L → B ≤ W.heap.size → Calls Try.prog 41 #[u, .func (.func 44) #[leaveV tp si] #[]] W fun e w' => ∃ v', e = .returned v' ∧ SliceG w' B v' (L.filter (fun g => !(isG tp si g))) ∧ Below B W w' := fun h u B W h1 h2 => deleteHas_any tp si u B L W h1 h2 (by have := (grantsB_parts h).1; omega) (fun c W _ => hasG_any tp si c W)
  have HNo : Hid ((grantsB L && (siteG tp && siteG si)) = false → dropL L tp si = []) := fun h => by rw [← Bool.and_assoc] at h; unfold dropL; rw [if_neg (by rw [h]; decide)]
  have HY : Hid ((grantsB L && (siteG tp && siteG si)) = true → dropL L tp si = L.filter (fun g => !(isG tp si g))) := fun h => by rw [← Bool.and_assoc] at h; unfold dropL; rw [if_pos h]
  have hmf : ∀ (fn : Fn) (first cap : Array Value) (w : World), (Instr.makeFunc fn first cap).run Try.prog w = .ok (.func fn first cap) w := fun _ _ _ _ => rfl
  clear hs
  generalize dropL L tp si = Z at *
  generalize L.filter (fun g => !(isG tp si g)) = Y at *
  generalize grantsB L = r1 at *
  generalize (siteG tp && siteG si) = r2 at *
  unfold leaveV at *
  have KR : Hid (∀ W, Calls Try.prog 56 #[.agg #[.string tp, .string si]] W fun e w' => e = .returned (.bool r2) ∧ Below W.heap.size W w') := KR0
  have KD : Hid (r1 = true → ∀ (u : Value) (B : Nat) (W : World), SliceG W B u L → B ≤ W.heap.size → Calls Try.prog 41 #[u, .func (.func 44) #[.agg #[.string tp, .string si]] #[]] W fun e w' => ∃ v', e = .returned v' ∧ SliceG w' B v' Y ∧ Below B W w') := KD0
  clear KR0 KD0
  obtain ⟨W0, hW⟩ : ∃ W0, W0 = w.alloc (.cells #[.string tp, .string si] 60) := ⟨_, rfl⟩
  have hW0 : Hid (W0 = w.alloc (.cells #[.string tp, .string si] 60)) := hW
  have B0 : Hid (Below w.heap.size w W0) := by show Below _ _ _; rw [hW]; exact (Below.refl _ _).alloc (Nat.le_refl _) _
  have g0 : W0.cell? ⟨w.heap.size, 0, none⟩ = some (.string tp) := by rw [hW]; simp
  have g1 : W0.cell? ⟨w.heap.size, 1, none⟩ = some (.string si) := by rw [hW]; simp
  have zw : w.heap.size < W0.heap.size := by rw [hW]; simp
  clear hW
  go_enter Try.func15, Try.ntmps15
  go_upto_region 2 with fail
  rw [← hW0.out]
  clear hW0
  generalize hbb : w.heap.size = b at *
  go_wp2_with fail
  refine (KG.out _ B0.out).mono ?_
  rintro e w1 ⟨rfl, hb1⟩
  have x0 : w1.cell? ⟨b, 0, none⟩ = some (.string tp) := ((bcell hb1).1 _ _ zw).trans g0
  have x1 : w1.cell? ⟨b, 1, none⟩ = some (.string si) := ((bcell hb1).1 _ _ zw).trans g1
  have B1 : Hid (Below b w w1) := B0.out.trans (hb1.mono (Nat.le_of_lt zw))
  have zw1 : b < w1.heap.size := Nat.lt_of_lt_of_le zw hb1.size
  clear hb1 g0 g1 KG B0
  cases r1 with
  | false =>
    have HZ : Hid (Z = []) := HNo.out rfl
    go_wp2
    go_ret
    exact ⟨_, rfl, by rw [HZ.out]; exact sliceG_none _ _, by rw [hbb]; exact B1.out⟩
  | true =>
  have KC2 := KC.out rfl
  have KD2 := KD.out rfl
  have KC3 : Hid (∀ W, Below b w W → Calls Try.prog 42 #[v] W fun e w' => ∃ v', e = .returned v' ∧ SliceG w' W.heap.size v' L ∧ Below W.heap.size W w') := KC2
  have KD3 : Hid (∀ (u : Value) (B : Nat) (W : World), SliceG W B u L → B ≤ W.heap.size → Calls Try.prog 41 #[u, .func (.func 44) #[.agg #[.string tp, .string si]] #[]] W fun e w' => ∃ v', e = .returned v' ∧ SliceG w' B v' Y ∧ Below B W w') := KD2
  clear KC KD KC2 KD2
  go_wp2_with fail
  refine (KR.out _).mono ?_
  rintro e w2 ⟨rfl, hb2⟩
  have y0 : w2.cell? ⟨b, 0, none⟩ = some (.string tp) := ((bcell hb2).1 _ _ zw1).trans x0
  have y1 : w2.cell? ⟨b, 1, none⟩ = some (.string si) := ((bcell hb2).1 _ _ zw1).trans x1
  have B2 : Hid (Below b w w2) := B1.out.trans (hb2.mono (Nat.le_of_lt zw1))
  have zw2 : b < w2.heap.size := Nat.lt_of_lt_of_le zw1 hb2.size
  clear hb2 x0 x1
  cases r2 with
  | false =>
    have HZ : Hid (Z = []) := HNo.out rfl
    go_wp2
    go_ret
    exact ⟨_, rfl, by rw [HZ.out]; exact sliceG_none _ _, by rw [hbb]; exact B2.out⟩
  | true =>
    have HZ : Hid (Z = Y) := HY.out rfl
    go_wp2_with fail
    go_region_held3 (fun w' => w'.cell? ⟨b, 0, none⟩ = some (.string tp) ∧ w'.cell? ⟨b, 1, none⟩ = some (.string si)) (go_keep)
      (first
        | (go_at_call 42; refine (KC3.out _ (B2.out.trans (Below.drew (Below.refl _ _)))).mono ?_; rintro e w3 ⟨u3, rfl, hs3, hb3⟩; have A3 : Below w2.heap.size w2 w3 := (Below.drew (Below.refl _ _)).trans hb3; have m0 : w3.cell? ⟨b, 0, none⟩ = some (.string tp) := ((bcell A3).1 _ _ zw2).trans y0; have m1 : w3.cell? ⟨b, 1, none⟩ = some (.string si) := ((bcell A3).1 _ _ zw2).trans y1)
        | (go_at_call 41; refine (KD3.out _ _ _ hs3 hb3.size).mono ?_; rintro e w4 ⟨u4, rfl, hs4, hb4⟩; have A4 : Below w2.heap.size w2 w4 := A3.trans hb4; have n0 : w4.cell? ⟨b, 0, none⟩ = some (.string tp) := ((bcell A4).1 _ _ zw2).trans y0; have n1 : w4.cell? ⟨b, 1, none⟩ = some (.string si) := ((bcell A4).1 _ _ zw2).trans y1))
    all_goals
      have S4 : Hid (SliceG w4 b u4 Z) := by show SliceG _ _ _ _; rw [HZ.out]; exact hs4.mono (Nat.le_of_lt zw2)
      have B4 : Hid (Below b w w4) := B2.out.trans (A4.mono (Nat.le_of_lt zw2))
    all_goals go_wp2
    all_goals go_ret
    all_goals exact ⟨_, rfl, by rw [hbb]; exact S4.out, by rw [hbb]; exact B4.out⟩
end Go.Proofs.Ytecaeolgheefmaa

/- The laws' markGrantS and heldGrantS over slices of grants. Written by rowsmark.py. -/
namespace Go.Proofs.Ytecaeolgheefmaa
open Go.RowKit

/-- the mark of a cell, of one whose first number is z -/
def markGrZ (z o : Nat) : Value := if o = 0 then .string (markT (z + 0)) else if o = 1 then .string (markT (z + 1)) else .int .i64 ((z : Int) + 1 + 1)
def markGrC (q j o : Nat) : Value := markGrZ (q + j * 3) o
def markedG (f : Nat → Nat → Value) (q k j o : Nat) : Value := if j < k then markGrC q j o else f j o
theorem SliceR.atGr {w : World} {B n m g cap : Nat} {f : Nat → Nat → Value} (hs : SliceR w B 3 (.slice (some ⟨g, 0, none⟩) m cap) n f) (k : Nat) (hk : k < n) : ∀ o, o < 3 → w.cell? ⟨g, k * 3 + o, none⟩ = some (f k o) ∧ w.frozen? ⟨g, k * 3 + o, none⟩ = false := by
  obtain ⟨p', cap', e, hh⟩ := hs
  injection e with e1
  obtain ⟨g', e2, -, -, hc⟩ := hh (by omega)
  rw [e2] at e1
  injection e1 with e1
  injection e1 with e1
  subst e1
  exact hc k hk
set_option maxRecDepth 10000 in
set_option maxHeartbeats 8000000 in
theorem markGrantS_any (a : Value) (n B q : Nat) (f : Nat → Nat → Value) (w : World) (ha : SliceR w B 3 a n f) (hn : n ≤ 1048576) (hq : 0 < q) (hq2 : q ≤ 20971520) :
    Calls Try.prog 33 #[a, .int .i64 (q : Int)] w fun e w' => e = .returned (.int .i64 ((q + n * 3 : Nat) : Int)) ∧ SliceR w' B 3 a n (markGrC q) ∧ (∀ G, (0 < n → a.ownBlock = some G) → w.grownBy w' (some G)) := by
  have HA : Hid (SliceR w B 3 a n f) := ha
  obtain ⟨p, cap, rfl, h1⟩ := ha
  have HG : Hid (0 < n → ∃ g, p = some ⟨g, 0, none⟩ ∧ B ≤ g ∧ g < w.heap.size) := fun h => by
    obtain ⟨g, e, h2, h3, -⟩ := h1 h
    exact ⟨g, e, h2, h3⟩
  clear h1
  have HM : Hid (∀ (m : Nat) (W : World), 0 < m → m ≤ 9223372036854775807 → Calls Try.prog 72 #[.int .i64 (m : Int)] W fun e w' => e = .returned (.string (markT m)) ∧ Below W.heap.size W w') := fun m W h1 h2 => markText_any m W h1 h2
  go_enter Try.func33, Try.ntmps33
  go_wp2
  go_loopw [1, 5] (fun kk i wr => ∃ k : Nat, k ≤ n ∧ i = .int .i64 k ∧ kk = .int .i64 ((q + k * 3 : Nat) : Int) ∧ Hid (SliceR wr B 3 (.slice p n cap) n (markedG f q k)) ∧ Hid (∀ G, (0 < n → (Value.slice p n cap).ownBlock = some G) → w.grownBy wr (some G))) (fun _ i _ => n - (intOf i).toNat)
  case atStart => exact ⟨0, by omega, rfl, by go_num, HA, fun _ _ => ⟨rfl, rfl, rfl, Nat.le_refl _, fun _ _ _ => rfl⟩⟩
  case round =>
    obtain ⟨k, hk, rfl, rfl, HR, HB⟩ := hrel
    by_cases hlt : k < n
    · obtain ⟨g, rfl, hBg, hgw⟩ := HG.out (by omega)
      have k0 : (0 : Int) ≤ k := by omega
      have k1 : (k : Int) < n := by omega
      have B0 : Hid (w.grownBy wr (some g)) := HB.out g (fun _ => rfl)
      have hzb : q + k * 3 ≤ 50000000 := by omega
      have hz0 : 0 < q + k * 3 := by omega
      have HEnd : Hid (∀ w', SliceR w' B 3 (.slice (some ⟨g, 0, none⟩) n cap) n (fun j o => if j = k then markGrZ (q + k * 3) o else markedG f q k j o) → SliceR w' B 3 (.slice (some ⟨g, 0, none⟩) n cap) n (markedG f q (k + 1))) := fun w' h => SliceR.congr h (fun j hj o ho => by
        unfold markedG markGrC
        by_cases e : j = k
        · subst e; rw [if_pos rfl, if_pos (by omega)]
        · rw [if_neg e]
          by_cases h : j < k
          · rw [if_pos h, if_pos (by omega)]
          · rw [if_neg h, if_neg (by omega)])
      have hnx : ((q + k * 3 : Nat) : Int) + 3 = ((q + (k + 1) * 3 : Nat) : Int) := by omega
      have HNX : Hid (((q + k * 3 : Nat) : Int) + 3 = ((q + (k + 1) * 3 : Nat) : Int)) := hnx
      clear hnx
      generalize markedG f q k = fm at *
      generalize q + k * 3 = zn at *
      have HN0 : Hid (∀ W, Calls Try.prog 72 #[.int .i64 ((zn : Int))] W fun e w' => e = .returned (.string (markT (zn + 0))) ∧ Below W.heap.size W w') := fun W => by
        have h := HM.out (zn + 0) W (by omega) (by omega)
        have e : ((zn + 0 : Nat) : Int) = (zn : Int) := by omega
        rw [e] at h; exact h
      have HN1 : Hid (∀ W, Calls Try.prog 72 #[.int .i64 ((zn : Int) + 1)] W fun e w' => e = .returned (.string (markT (zn + 1))) ∧ Below W.heap.size W w') := fun W => by
        have h := HM.out (zn + 1) W (by omega) (by omega)
        have e : ((zn + 1 : Nat) : Int) = (zn : Int) + 1 := by omega
        rw [e] at h; exact h
      have X0 : Hid (SliceR wr B 3 (.slice (some ⟨g, 0, none⟩) n cap) n fm) := HR
      clear HM HR HB
      go_wp2_with fail
      refine (HN0.out _).mono ?_
      rintro e u1 ⟨rfl, hb1⟩
      have S1 : Hid (SliceR u1 B 3 (.slice (some ⟨g, 0, none⟩) n cap) n fm) := SliceR.below (X0.out) hb1
      have G1 : Hid (w.grownBy u1 (some g)) := grownG_below (B0.out) hb1
      clear hb1
      have hx0 := (SliceR.atGr S1.out k hlt 0 (by omega)).1
      have hf0 := (SliceR.atGr S1.out k hlt 0 (by omega)).2
      rw [Nat.add_zero] at hx0 hf0
      generalize fm k 0 = y0 at hx0
      go_wp2_with fail
      refine (HN1.out _).mono ?_
      rintro e u2 ⟨rfl, hb2⟩
      have S2 : Hid (SliceR u2 B 3 (.slice (some ⟨g, 0, none⟩) n cap) n (updR fm k 0 (.string (markT (zn + 0))))) := SliceR.below (SliceR.set (S1.out) k 0 hlt (by omega) (.string (markT (zn + 0)))) hb2
      have G2 : Hid (w.grownBy u2 (some g)) := grownG_below (grownG_set (G1.out) (k * 3 + 0) (.string (markT (zn + 0)))) hb2
      clear hb2 hx0 hf0
      have hx1 := (SliceR.atGr S2.out k hlt 1 (by omega)).1
      have hf1 := (SliceR.atGr S2.out k hlt 1 (by omega)).2
      generalize (updR fm k 0 (.string (markT (zn + 0)))) k 1 = y1 at hx1
      have hx2 := (SliceR.atGr S2.out k hlt 2 (by omega)).1
      have hf2 := (SliceR.atGr S2.out k hlt 2 (by omega)).2
      generalize (updR fm k 0 (.string (markT (zn + 0)))) k 2 = y2 at hx2
      go_wp2
      go_roundw
      case rel =>
        refine ⟨k + 1, by omega, by go_num, val_int (by have := HNX.out; omega), ?_, ?_⟩
        · refine HEnd.out _ (SliceR.congr (SliceR.set (SliceR.set (S2.out) k 1 hlt (by omega) (.string (markT (zn + 1)))) k 2 hlt (by omega) (.int .i64 ((zn : Int) + 1 + 1))) (fun j hj o ho => ?_))
          by_cases e : j = k
          · subst e
            rw [if_pos rfl]
            match o, ho with
            | 0, _ => simp [updR, markGrZ]
            | 1, _ => simp [updR, markGrZ]
            | 2, _ => simp [updR, markGrZ]
          · simp [updR, e]
        · intro G hG
          obtain rfl : g = G := Option.some.inj (hG (by omega))
          exact grownG_set (grownG_set (G2.out) (k * 3 + 1) (.string (markT (zn + 1)))) (k * 3 + 2) (.int .i64 ((zn : Int) + 1 + 1))
      case measure => simp [intOf]; omega
    · obtain rfl : k = n := by omega
      have HS : Hid (SliceR wr B 3 (.slice p k cap) k (markGrC q)) := SliceR.congr HR.out (fun j hj o ho => by unfold markedG; rw [if_pos hj])
      go_wp2
      go_ret
      exact ⟨rfl, HS.out, HB.out⟩
set_option maxRecDepth 10000 in
set_option maxHeartbeats 8000000 in
theorem heldGrantS_any (a : Value) (n B q : Nat) (w : World) (ha : SliceR w B 3 a n (markGrC q)) (hn : n ≤ 1048576) (hq : 0 < q) (hq2 : q ≤ 20971520) :
    Calls Try.prog 36 #[a, .int .i64 (q : Int)] w fun e w' => e = .returned (.int .i64 ((q + n * 3 : Nat) : Int)) ∧ Below w.heap.size w w' := by
  obtain ⟨p, cap, rfl, h1⟩ := ha
  have HG : Hid (0 < n → ∃ g, p = some ⟨g, 0, none⟩ ∧ B ≤ g ∧ g < w.heap.size ∧ ∀ j, j < n → ∀ o, o < 3 → w.cell? ⟨g, j * 3 + o, none⟩ = some (markGrC q j o) ∧ w.frozen? ⟨g, j * 3 + o, none⟩ = false) := h1
  clear h1
  have HM : Hid (∀ (m : Nat) (W : World), 0 < m → m ≤ 9223372036854775807 → Calls Try.prog 72 #[.int .i64 (m : Int)] W fun e w' => e = .returned (.string (markT m)) ∧ Below W.heap.size W w') := fun m W h1 h2 => markText_any m W h1 h2
  go_enter Try.func36, Try.ntmps36
  go_wp2
  go_loopw [1, 4, 5] (fun kk r i wr => ∃ k : Nat, k ≤ n ∧ i = .int .i64 k ∧ kk = .int .i64 ((q + k * 3 : Nat) : Int) ∧ Hid (Below w.heap.size w wr)) (fun _ _ i _ => n - (intOf i).toNat)
  case atStart => exact ⟨0, by omega, rfl, by go_num, Below.refl _ _⟩
  case round =>
    obtain ⟨k, hk, rfl, rfl, HB⟩ := hrel
    by_cases hlt : k < n
    · obtain ⟨g, rfl, -, hg, hc⟩ := HG.out (by omega)
      have k0 : (0 : Int) ≤ k := by omega
      have k1 : (k : Int) < n := by omega
      have hgr : g < wr.heap.size := Nat.lt_of_lt_of_le hg HB.out.size
      have hzb : q + k * 3 ≤ 50000000 := by omega
      have hz0 : 0 < q + k * 3 := by omega
      have hx : ∀ o, o < 3 → wr.cell? ⟨g, k * 3 + o, none⟩ = some (markGrZ (q + k * 3) o) := fun o ho => by rw [(bcell HB.out).1 _ _ hg]; exact (hc k hlt o ho).1
      have HNX : Hid (((q + k * 3 : Nat) : Int) + 3 = ((q + (k + 1) * 3 : Nat) : Int)) := by show _ = _; omega
      clear hc
      generalize q + k * 3 = zn at *
      have c0 : wr.cell? ⟨g, k * 3, none⟩ = some (.string (markT (zn + 0))) := hx 0 (by omega)
      have c1 : wr.cell? ⟨g, k * 3 + 1, none⟩ = some (.string (markT (zn + 1))) := hx 1 (by omega)
      have c2 : wr.cell? ⟨g, k * 3 + 2, none⟩ = some (.int .i64 ((zn : Int) + 1 + 1)) := hx 2 (by omega)
      have HN0 : Hid (∀ W, Calls Try.prog 72 #[.int .i64 ((zn : Int))] W fun e w' => e = .returned (.string (markT (zn + 0))) ∧ Below W.heap.size W w') := fun W => by
        have h := HM.out (zn + 0) W (by omega) (by omega)
        have e : ((zn + 0 : Nat) : Int) = (zn : Int) := by omega
        rw [e] at h; exact h
      have HN1 : Hid (∀ W, Calls Try.prog 72 #[.int .i64 ((zn : Int) + 1)] W fun e w' => e = .returned (.string (markT (zn + 1))) ∧ Below W.heap.size W w') := fun W => by
        have h := HM.out (zn + 1) W (by omega) (by omega)
        have e : ((zn + 1 : Nat) : Int) = (zn : Int) + 1 := by omega
        rw [e] at h; exact h
      generalize markT (zn + 0) = t0 at *
      generalize markT (zn + 1) = t1 at *
      clear hx HM
      go_wp2_with fail
      go_region_held3 (fun w' => w'.cell? ⟨g, k * 3, none⟩ = some (.string t0) ∧ w'.cell? ⟨g, k * 3 + 1, none⟩ = some (.string t1) ∧ w'.cell? ⟨g, k * 3 + 2, none⟩ = some (.int .i64 ((zn : Int) + 1 + 1))) (go_keep)
        (first | (go_at_call 72; refine (HN0.out _).mono ?_; rintro e u1 ⟨rfl, hb1⟩; have A1 : Below wr.heap.size wr u1 := (Below.drew (Below.refl _ _)).trans hb1; have g1 : g < u1.heap.size := Nat.lt_of_lt_of_le hgr A1.size; have E1 : Hid (Below w.heap.size w u1) := HB.out.trans (A1.mono HB.out.size); have d1_0 : u1.cell? ⟨g, k * 3, none⟩ = some (.string t0) := ((bcell A1).1 _ _ hgr).trans c0; have d1_1 : u1.cell? ⟨g, k * 3 + 1, none⟩ = some (.string t1) := ((bcell A1).1 _ _ hgr).trans c1; have d1_2 : u1.cell? ⟨g, k * 3 + 2, none⟩ = some (.int .i64 ((zn : Int) + 1 + 1)) := ((bcell A1).1 _ _ hgr).trans c2))
      clear hb1 A1 c0 c1 c2
      go_wp2_with fail
      go_region_held3 (fun w' => w'.cell? ⟨g, k * 3 + 1, none⟩ = some (.string t1) ∧ w'.cell? ⟨g, k * 3 + 2, none⟩ = some (.int .i64 ((zn : Int) + 1 + 1))) (go_keep)
        (first | (go_at_call 72; refine (HN1.out _).mono ?_; rintro e u2 ⟨rfl, hb2⟩; have A2 : Below u1.heap.size u1 u2 := (Below.drew (Below.refl _ _)).trans hb2; have g2 : g < u2.heap.size := Nat.lt_of_lt_of_le g1 A2.size; have E2 : Hid (Below w.heap.size w u2) := E1.out.trans (A2.mono E1.out.size); have d2_1 : u2.cell? ⟨g, k * 3 + 1, none⟩ = some (.string t1) := ((bcell A2).1 _ _ g1).trans d1_1; have d2_2 : u2.cell? ⟨g, k * 3 + 2, none⟩ = some (.int .i64 ((zn : Int) + 1 + 1)) := ((bcell A2).1 _ _ g1).trans d1_2))
      clear hb2 A2 d1_0 d1_1 d1_2
      go_wp2
      go_roundw
      case rel => exact ⟨k + 1, by omega, by go_num, val_int (by have := HNX.out; omega), E2⟩
      case measure => simp [intOf]; omega
    · obtain rfl : k = n := by omega
      go_wp2
      go_ret
      exact ⟨rfl, HB.out⟩
end Go.Proofs.Ytecaeolgheefmaa

/- Slices of structs while others are marked. -/
namespace Go.Proofs.Ytecaeolgheefmaa
open Go.RowKit

theorem SliceR.place {w : World} {B sz n : Nat} {v : Value} {f : Nat → Nat → Value} (h : SliceR w B sz v n f) : 0 < n → ∃ g, v.ownBlock = some g ∧ B ≤ g ∧ g < w.heap.size := by
  obtain ⟨p, cap, rfl, h⟩ := h
  intro hn
  obtain ⟨g, rfl, hB, hg, -⟩ := h hn
  exact ⟨g, rfl, hB, hg⟩
theorem SliceR.keepG {w w' : World} {B sz n G : Nat} {v : Value} {f : Nat → Nat → Value} (h : SliceR w B sz v n f) (hg : w.grownBy w' (some G)) (hne : 0 < n → ∃ g, v.ownBlock = some g ∧ g ≠ G) : SliceR w' B sz v n f := by
  obtain ⟨p, cap, rfl, h⟩ := h
  refine ⟨p, cap, rfl, fun hn => ?_⟩
  obtain ⟨g, rfl, hB, hgw, hc⟩ := h hn
  obtain ⟨g', e, hn'⟩ := hne hn
  obtain rfl : g = g' := Option.some.inj e
  have hb : w'.heap[g]? = w.heap[g]? := hg.block g hgw (fun e => hn' (Option.some.inj e))
  refine ⟨g, rfl, hB, Nat.lt_of_lt_of_le hgw hg.size, fun j hj o ho => ⟨?_, ?_⟩⟩
  · rw [World.cell?_of_block (a := ⟨g, j * sz + o, none⟩) hb]; exact (hc j hj o ho).1
  · rw [World.frozen?_of_block (a := ⟨g, j * sz + o, none⟩) hb]; exact (hc j hj o ho).2
end Go.Proofs.Ytecaeolgheefmaa

/- Slices of grants while others are marked. -/
namespace Go.Proofs.Ytecaeolgheefmaa
open Go.RowKit

theorem SliceG.keepG {w w' : World} {B G : Nat} {v : Value} {L : List Gr} (h : SliceG w B v L) (hg : w.grownBy w' (some G)) (hne : 0 < L.length → ∃ g, v.ownBlock = some g ∧ g ≠ G) : SliceG w' B v L := ⟨h.1.keepG hg hne, h.2⟩
theorem markG_call (a : Value) (L : List Gr) (B : Nat) (w : World) (ha : SliceG w B a L) (hB : B ≤ w.heap.size) (hn : L.length ≤ 1048576) :
    Calls Try.prog 33 #[a, .int .i64 1] w fun e w' => e = .returned (.int .i64 ((1 + L.length * 3 : Nat) : Int)) ∧ SliceR w' B 3 a L.length (markGrC 1) ∧ ∃ G, B ≤ G ∧ (0 < L.length → a.ownBlock = some G) ∧ (¬ 0 < L.length → w.heap.size ≤ G) ∧ w.grownBy w' (some G) := by
  refine (markGrantS_any a L.length B 1 _ w ha.1 hn (by decide) (by decide)).mono ?_
  rintro e w' ⟨rfl, h2, h3⟩
  refine ⟨rfl, h2, ?_⟩
  by_cases h0 : 0 < L.length
  · obtain ⟨g, e, hBg, -⟩ := ha.1.place h0
    exact ⟨g, hBg, fun _ => e, fun h => absurd h0 h, h3 g (fun _ => e)⟩
  · exact ⟨w.heap.size, hB, fun h => absurd h h0, fun _ => Nat.le_refl _, h3 _ (fun h => absurd h h0)⟩
end Go.Proofs.Ytecaeolgheefmaa

/- The law FnExactGrantOld, walked. Written by lawgrants.py. -/
namespace Go.Proofs.Ytecaeolgheefmaa
open Go.RowKit

set_option maxRecDepth 10000 in
set_option maxHeartbeats 4000000 in
theorem lawGrantOld_any (a : Option Addr) (cap : Nat) (L : List Gr) (now : Int) (w : World) (hr : GrRow w a L) (hn : L.length ≤ maxLen) :
    Calls Try.prog 9 #[.slice a L.length cap, .int .i64 now] w fun e w' => e = .returned (.bool true) ∧ Below w.heap.size w w' := by
  have HR : Hid (GrRow w a L) := hr
  clear hr
  go_enter Try.func9, Try.ntmps9
  go_wp2_with fail
  refine (szGrantS_any a cap L 1048576 _ HR.out hn (by decide) (by decide)).mono ?_
  rintro e w0 ⟨⟨r, rfl, hr⟩, hb0⟩
  have B0 : Hid (Below w.heap.size w w0) := hb0
  clear hb0
  rcases hr with hr | ⟨r0, r1, hl, hf⟩
  · go_wp2
    go_ret
    exact ⟨rfl, B0.out⟩
  have q : decide (r < 0) = false := by rw [decide_eq_false_iff_not]; omega
  clear hf r0 r1
  have KT : Hid (∀ W, Below w.heap.size w W → Calls Try.prog 30 #[.slice a L.length cap] W fun e w' => ∃ v, e = .returned v ∧ SliceG w' W.heap.size v L ∧ Below W.heap.size W w') := fun W hb => toGrantS_any a cap L W (HR.out.below hb) hl
  have KS : Hid (∀ (v : Value) (B : Nat) (W : World), SliceG W B v L → Calls Try.prog 23 #[v, .int .i64 now] W fun e w' => ∃ v', e = .returned v' ∧ SliceG w' W.heap.size v' (oldG L now) ∧ Below W.heap.size W w') := fun v B W s => specGrantOld_any v L now B W s hl
  have KI : Hid (∀ (v : Value) (B : Nat) (W : World), Below w.heap.size w W → SliceG W B v L → Calls Try.prog 22 #[v, .int .i64 now] W fun e w' => ∃ v', e = .returned v' ∧ SliceG w' W.heap.size v' (oldG L now) ∧ Below W.heap.size W w') := fun v B W _ b => grantOld_any v L now B W b hl
  have hZ := oldG_len L now
  clear HR
  generalize oldG L now = Z at *
  go_wp2_with fail
  refine (KT.out _ B0.out).mono ?_
  rintro e w1 ⟨v1, rfl, s1, hb1⟩
  have B1 : Hid (Below w.heap.size w w1) := B0.out.trans (hb1.mono B0.out.size)
  have S1 : Hid (SliceG w1 w0.heap.size v1 L) := s1
  clear s1 hb1
  go_wp2_with fail
  refine (KS.out _ _ _ S1.out).mono ?_
  rintro e w2 ⟨vs, rfl, s2, hb2⟩
  have B2 : Hid (Below w.heap.size w w2) := B1.out.trans (hb2.mono B1.out.size)
  have S2 : Hid (SliceG w2 w1.heap.size vs Z) := s2
  have P2 : Hid (0 < Z.length → ∃ g, vs.ownBlock = some g ∧ w1.heap.size ≤ g ∧ g < w2.heap.size) := s2.1.place
  clear s2 hb2 S1 KS B1
  go_wp2_with fail
  refine (KT.out _ B2.out).mono ?_
  rintro e w3 ⟨vx, rfl, s3, hb3⟩
  have B3 : Hid (Below w.heap.size w w3) := B2.out.trans (hb3.mono B2.out.size)
  have S2_3 : Hid (SliceG w3 w1.heap.size vs Z) := S2.out.below hb3
  have S3 : Hid (SliceG w3 w2.heap.size vx L) := s3
  have P3 : Hid (0 < L.length → ∃ g, vx.ownBlock = some g ∧ w2.heap.size ≤ g ∧ g < w3.heap.size) := s3.1.place
  have z23 : w2.heap.size ≤ w3.heap.size := hb3.size
  clear s3 hb3 S2
  go_wp2_with fail
  refine (KI.out _ _ _ B3.out S3.out).mono ?_
  rintro e w4 ⟨vg, rfl, s4, hb4⟩
  have B4 : Hid (Below w.heap.size w w4) := B3.out.trans (hb4.mono B3.out.size)
  have S2_4 : Hid (SliceG w4 w1.heap.size vs Z) := S2_3.out.below hb4
  have S3_4 : Hid (SliceG w4 w2.heap.size vx L) := S3.out.below hb4
  have S4 : Hid (SliceG w4 w3.heap.size vg Z) := s4
  have P4 : Hid (0 < Z.length → ∃ g, vg.ownBlock = some g ∧ w3.heap.size ≤ g ∧ g < w4.heap.size) := s4.1.place
  have z34 : w3.heap.size ≤ w4.heap.size := hb4.size
  clear s4 hb4 S2_3 S3
  go_wp2_with fail
  refine (eqGrantS_any vg vs Z _ _ _ S4.out S2_4.out (by omega)).mono ?_
  rintro e w5 ⟨rfl, hb5⟩
  have B5 : Hid (Below w.heap.size w w5) := B4.out.trans (hb5.mono B4.out.size)
  have S2_5 : Hid (SliceG w5 w1.heap.size vs Z) := S2_4.out.below hb5
  have S3_5 : Hid (SliceG w5 w2.heap.size vx L) := S3_4.out.below hb5
  have S4_5 : Hid (SliceG w5 w3.heap.size vg Z) := S4.out.below hb5
  have z45 : w4.heap.size ≤ w5.heap.size := hb5.size
  clear hb5 S2_4 S3_4 S4
  go_wp2_with fail
  refine (KT.out _ B5.out).mono ?_
  rintro e w6 ⟨v6, rfl, s6, hb6⟩
  have B6 : Hid (Below w.heap.size w w6) := B5.out.trans (hb6.mono B5.out.size)
  have S2_6 : Hid (SliceG w6 w1.heap.size vs Z) := S2_5.out.below hb6
  have S3_6 : Hid (SliceG w6 w2.heap.size vx L) := S3_5.out.below hb6
  have S4_6 : Hid (SliceG w6 w3.heap.size vg Z) := S4_5.out.below hb6
  have S6 : Hid (SliceG w6 w5.heap.size v6 L) := s6
  have z56 : w5.heap.size ≤ w6.heap.size := hb6.size
  clear hb6 s6 S2_5 S3_5 S4_5
  go_wp2_with fail
  refine (eqGrantS_any vx v6 L _ _ _ S3_6.out S6.out hl).mono ?_
  rintro e w7 ⟨rfl, hb7⟩
  have B7 : Hid (Below w.heap.size w w7) := B6.out.trans (hb7.mono B6.out.size)
  have S2_7 : Hid (SliceG w7 w1.heap.size vs Z) := S2_6.out.below hb7
  have S3_7 : Hid (SliceG w7 w2.heap.size vx L) := S3_6.out.below hb7
  have S4_7 : Hid (SliceG w7 w3.heap.size vg Z) := S4_6.out.below hb7
  have z67 : w6.heap.size ≤ w7.heap.size := hb7.size
  clear hb7 S2_6 S3_6 S4_6 S6
  go_wp2_with fail
  refine (markG_call vx L w2.heap.size w7 S3_7.out (by omega) hl).mono ?_
  rintro e w8 ⟨rfl, -, G, hG1, hG2, hG3, hg8⟩
  have S2_8 : Hid (SliceG w8 w1.heap.size vs Z) := S2_7.out.keepG hg8 (fun h => by obtain ⟨g, e, h1, h2⟩ := P2.out h; exact ⟨g, e, by omega⟩)
  have S4_8 : Hid (SliceG w8 w3.heap.size vg Z) := S4_7.out.keepG hg8 (fun h => by
    obtain ⟨g, e, h1, h2⟩ := P4.out h
    refine ⟨g, e, ?_⟩
    by_cases h0 : 0 < L.length
    · obtain ⟨g', e', h1', h2'⟩ := P3.out h0
      have e2 := hG2 h0
      rw [e'] at e2
      have := Option.some.inj e2
      omega
    · have := hG3 h0; omega)
  have B8 : Hid (Below w.heap.size w w8) := B7.out.grown hg8 B7.out.size (fun j hj => by have := Option.some.inj hj; have := B2.out.size; omega)
  have z78 : w7.heap.size ≤ w8.heap.size := hg8.size
  have hm0 : decide ((((1 + L.length * 3 : Nat) : Int)) < 0) = false := by rw [decide_eq_false_iff_not]; omega
  clear hg8 hG1 hG2 hG3 S2_7 S3_7 S4_7 P3
  generalize ((1 + L.length * 3 : Nat) : Int) = mL at *
  go_wp2_with fail
  refine (eqGrantS_any vg vs Z _ _ _ S4_8.out S2_8.out (by omega)).mono ?_
  rintro e w9 ⟨rfl, hb9⟩
  have B9 : Hid (Below w.heap.size w w9) := B8.out.trans (hb9.mono B8.out.size)
  have S2_9 : Hid (SliceG w9 w1.heap.size vs Z) := S2_8.out.below hb9
  have S4_9 : Hid (SliceG w9 w3.heap.size vg Z) := S4_8.out.below hb9
  have z89 : w8.heap.size ≤ w9.heap.size := hb9.size
  clear hb9 S2_8 S4_8
  go_wp2_with fail
  refine (markG_call vg Z w3.heap.size w9 S4_9.out (by omega) (by omega)).mono ?_
  rintro e w10 ⟨rfl, s10, G, hG1, hG2, hG3, hg10⟩
  have S2_10 : Hid (SliceG w10 w1.heap.size vs Z) := S2_9.out.keepG hg10 (fun h => by obtain ⟨g, e, h1, h2⟩ := P2.out h; exact ⟨g, e, by omega⟩)
  have S10 : Hid (SliceR w10 w3.heap.size 3 vg Z.length (markGrC 1)) := s10
  have B10 : Hid (Below w.heap.size w w10) := B9.out.grown hg10 B9.out.size (fun j hj => by have := Option.some.inj hj; have := B2.out.size; omega)
  have KH : Hid (∀ W, Below w10.heap.size w10 W → Calls Try.prog 36 #[vg, .int .i64 1] W fun e w' => e = .returned (.int .i64 ((1 + Z.length * 3 : Nat) : Int)) ∧ Below W.heap.size W w') := fun W hb => heldGrantS_any vg Z.length _ 1 W (SliceR.below S10.out hb) (by omega) (by decide) (by decide)
  have hm1 : decide ((((1 + Z.length * 3 : Nat) : Int)) < 0) = false := by rw [decide_eq_false_iff_not]; omega
  clear hg10 hG1 hG2 hG3 S2_9 S4_9 s10 S10 P2 P4
  generalize ((1 + Z.length * 3 : Nat) : Int) = mZ at *
  go_wp2_with fail
  refine (KH.out _ (Below.refl _ _)).mono ?_
  rintro e w11 ⟨rfl, hb11⟩
  have B11 : Hid (Below w.heap.size w w11) := B10.out.trans (hb11.mono B10.out.size)
  have A11 : Hid (Below w10.heap.size w10 w11) := hb11
  have S2_11 : Hid (SliceG w11 w1.heap.size vs Z) := S2_10.out.below hb11
  clear hb11 S2_10
  go_wp2_with fail
  refine (KT.out _ B11.out).mono ?_
  rintro e w12 ⟨v12, rfl, s12, hb12⟩
  have B12 : Hid (Below w.heap.size w w12) := B11.out.trans (hb12.mono B11.out.size)
  have A12 : Hid (Below w10.heap.size w10 w12) := A11.out.trans (hb12.mono A11.out.size)
  have S2_12 : Hid (SliceG w12 w1.heap.size vs Z) := S2_11.out.below hb12
  have S12 : Hid (SliceG w12 w11.heap.size v12 L) := s12
  clear hb12 s12 S2_11
  go_wp2_with fail
  refine (KI.out _ _ _ B12.out S12.out).mono ?_
  rintro e w13 ⟨vh, rfl, s13, hb13⟩
  have B13 : Hid (Below w.heap.size w w13) := B12.out.trans (hb13.mono B12.out.size)
  have A13 : Hid (Below w10.heap.size w10 w13) := A12.out.trans (hb13.mono A12.out.size)
  have S2_13 : Hid (SliceG w13 w1.heap.size vs Z) := S2_12.out.below hb13
  have S13 : Hid (SliceG w13 w12.heap.size vh Z) := s13
  clear hb13 s13 S2_12 S12
  go_wp2_with fail
  refine (eqGrantS_any vh vs Z _ _ _ S13.out S2_13.out (by omega)).mono ?_
  rintro e w14 ⟨rfl, hb14⟩
  have B14 : Hid (Below w.heap.size w w14) := B13.out.trans (hb14.mono B13.out.size)
  have A14 : Hid (Below w10.heap.size w10 w14) := A13.out.trans (hb14.mono A13.out.size)
  clear hb14
  go_wp2_with fail
  refine (KH.out _ A14.out).mono ?_
  rintro e w15 ⟨rfl, hb15⟩
  go_wp2
  go_ret
  exact ⟨rfl, B14.out.trans (hb15.mono B14.out.size)⟩
end Go.Proofs.Ytecaeolgheefmaa
