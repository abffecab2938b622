/- 5 of this claim's texts, one behind the other. -/
import Derived.Test.YtfoekelhcmlagaaDoorPart5
import Derived.Test.YtfoekelhcmlagaaDoorPart7
import Derived.Test.YtfoekelhcmlagaaDoorPart4
import Derived.Handed
import Derived.Lay
import Derived.MakeChecks
import Derived.Lib.LaidTab
import Derived.Stop.LaidErr
import Derived.Laws.IdiomArrays
import Derived.LaidLaws
import Derived.WalkSmall
import Derived.Carry
import Derived.ChangeVars
import Derived.OpenShut
/- The walk of the program's bookOf. -/
namespace Go.Proofs.YtfoekelhcmlagaaDoor
open Go.RowKit Go.Maps

/-- what is there already, stored once more -/
theorem setCell_same5 {w : World} {b o : Nat} {v : Value} (h : w.cell? ⟨b, o, none⟩ = some v) : w.setCell ⟨b, o, none⟩ v = w := by
  have hb : b < w.heap.size := by
    by_cases hb : b < w.heap.size
    · exact hb
    · exfalso
      simp [World.cell?, Array.getElem?_eq_none (show w.heap.size ≤ b by omega)] at h
  have hs : (w.setCell ⟨b, o, none⟩ v).heap = w.heap := by
    refine Array.ext (by simp [World.setCell]) (fun i h1 h2 => ?_)
    by_cases e : i = b
    · subst e
      unfold World.cell? at h
      rw [Array.getElem?_eq_getElem hb] at h
      simp only [World.setCell, Array.getElem_modify, if_true]
      cases hc : w.heap[i] with
      | cells c t fz =>
        rw [hc] at h
        simp only [Option.isSome_none, Bool.false_eq_true, if_false] at h ⊢
        congr 1
        refine Array.ext (by simp) (fun k k1 k2 => ?_)
        rw [Array.getElem_setIfInBounds]
        split
        · rename_i e2
          subst e2
          have h3 : c[o]? = some v := by simpa using h
          rw [Array.getElem?_eq_getElem (by simpa using k1)] at h3
          exact (Option.some.inj h3).symm
        · rfl
      | _ => rfl
    · simp only [World.setCell, Array.getElem_modify, if_neg (Ne.symm e)]
  cases w
  simp only [World.setCell] at hs ⊢
  rw [hs]
/-- the five errors stand -/
def ErrsI (w : World) : Prop := ErrAt w 0 ∧ ErrAt w 1 ∧ ErrAt w 2 ∧ ErrAt w 3 ∧ ErrAt w 5
theorem ErrAt.on {w w' : World} {g B : Nat} (h : ErrAt w g) (hb : Below B w w') (hB : w.heap.size ≤ B ∨ g < B) : ErrAt w' g := by
  obtain ⟨ty, v, h⟩ := h
  have hg := World.block_lt_of_cell? w _ h
  exact ⟨ty, v, by rw [hb.cell (p := ⟨g, 0, none⟩) (hB.elim (fun h => Nat.lt_of_lt_of_le hg h) id)]; exact h⟩
theorem ErrsI.below {w w' : World} (h : ErrsI w) (hb : Below w.heap.size w w') : ErrsI w' := ⟨h.1.on hb (.inl (Nat.le_refl _)), h.2.1.on hb (.inl (Nat.le_refl _)), h.2.2.1.on hb (.inl (Nat.le_refl _)), h.2.2.2.1.on hb (.inl (Nat.le_refl _)), h.2.2.2.2.on hb (.inl (Nat.le_refl _))⟩
theorem bookB_no {n : Nat} {f : Nat → ByteArray} {L : List SetL} (h : rulesB n f = false) : bookB n f L = false := by unfold bookB; rw [h]; rfl
theorem bookB_at {n : Nat} {f : Nat → ByteArray} {L : List SetL} (k : Nat) (hk : k < L.length) (h : okB n f L k = false) : bookB n f L = false := by
  unfold bookB
  rw [decide_eq_false (p := ∀ k, k < L.length → okB n f L k = true) (fun h' => by rw [h' k hk] at h; cases h), Bool.and_false]
theorem bookB_all {n : Nat} {f : Nat → ByteArray} {L : List SetL} (hr : rulesB n f = true) (h : ∀ k, k < L.length → okB n f L k = true) : bookB n f L = true := by
  unfold bookB; rw [hr, decide_eq_true h]; rfl
theorem okB_add {n : Nat} {f : Nat → ByteArray} {L : List SetL} {k : Nat} (h : addB n f (plOf L k) k (atS L k) = false) : okB n f L k = false := by unfold okB; rw [h, Bool.and_false]
theorem okB_order {n : Nat} {f : Nat → ByteArray} {L : List SetL} {m : Nat} (h : Op.bytesLess (atS L m).1.toList (atS L (m + 1)).1.toList = false) : okB n f L (m + 1) = false := by
  unfold okB; rw [Nat.add_sub_cancel, h]; rfl
theorem okB_yes {n : Nat} {f : Nat → ByteArray} {L : List SetL} {k : Nat} (h : addB n f (plOf L k) k (atS L k) = true) (h2 : k = 0 ∨ Op.bytesLess (atS L (k - 1)).1.toList (atS L k).1.toList = true) : okB n f L k = true := by
  unfold okB
  rw [h, Bool.and_true, Bool.or_eq_true, beq_iff_eq]
  exact h2
theorem okB_succ {n : Nat} {f : Nat → ByteArray} {L : List SetL} {k : Nat} (h : ∀ i, i < k → okB n f L i = true) (hk : okB n f L k = true) : ∀ i, i < k + 1 → okB n f L i = true := by
  intro i hi
  by_cases e : i = k
  · subst e; exact hk
  · exact h i (by omega)
theorem okB_six {n : Nat} {f : Nat → ByteArray} {L : List SetL} {k : Nat} (h : ∀ i, i < k → okB n f L i = true) : k ≤ 6 := by
  by_cases h6 : 6 < k
  · have := h 6 h6
    unfold okB addB at this
    rw [decide_eq_true rfl] at this
    simp at this
  · omega
theorem BookR.setLow {w : World} {B0 b bm r o : Nat} {rv sv x : Value} {T : List (SetL × Value)} (h : BookR w B0 b bm rv T sv) (hr : r < B0) : BookR (w.setCell ⟨r, o, none⟩ x) B0 b bm rv T sv where
  hb := h.hb
  hbm := h.hbm
  c0 := by rw [World.cell?_setCell_other _ _ _ _ (by intro e; injection e with e; have := h.hb; omega)]; exact h.c0
  c1 := by rw [World.cell?_setCell_other _ _ _ _ (by intro e; injection e with e; have := h.hb; omega)]; exact h.c1
  c2 := by rw [World.cell?_setCell_other _ _ _ _ (by intro e; injection e with e; have := h.hb; omega)]; exact h.c2
  fz := fun o => by rw [World.frozen?_setCell]; exact h.fz o
  own := own_far h.own (fun e => by have := (own_in5 h.own e).1; omega)
  nb := h.nb
  mem := fun t ht => ⟨(h.mem t ht).1.setFar (fun hn => by
    obtain ⟨g, e, hg, -⟩ := (h.mem t ht).1.place hn
    rw [e]
    intro e2
    have := Option.some.inj e2
    omega), (h.mem t ht).2⟩
/-- what the book is in the end -/
def BookIs (w : World) (B0 : Nat) (v : Value) (rv : Value) (L : List SetL) : Prop := ∃ B1 b bm T sv, B0 ≤ B1 ∧ v = .agg #[rv, sv, .map (some bm)] ∧ T.map Prod.fst = L ∧ BookR w B1 b bm rv T sv ∧ MapIs w bm 30 (plOf L L.length)
theorem take_snoc5 {L : List SetL} {k : Nat} (hk : k < L.length) : L.take (k + 1) = L.take k ++ [atS L k] := by
  rw [List.take_succ_eq_append_getElem hk]
  simp [atS, hk]
set_option maxRecDepth 10000 in
set_option maxHeartbeats 8000000 in
theorem bookOf_any (rv lv : Value) (n B B' : Nat) (f : Nat → ByteArray) (L : List SetL) (w : World) (hG : MaxI w) (hE : ErrsI w) (hr : SliceS w B rv n f) (l1 : n ≤ 1048576) (hf : ∀ i, i < n → (f i).size ≤ 1048576) (hs : SliceT w B' lv L) (hn : L.length ≤ 1048576) (hz : ∀ j, j < L.length → szS (atS L j)) :
    Calls Tryd.prog 95 #[rv, lv] w fun e w' => ((setsB n f L = true ∧ ∃ v, e = .returned (.tuple #[v, .nilIface]) ∧ BookIs w' w.heap.size v rv L) ∨ (setsB n f L = false ∧ ∃ ty v, e = .returned (.tuple #[.agg #[.slice none 0 0, .slice none 0 0, .map none], .iface ty v]))) ∧ Below w.heap.size w w' := by
  rw [← bookB_sets]
  have HNo : Hid (rulesB n f = false → bookB n f L = false) := fun h => bookB_no h
  have HAt : Hid (∀ k, k < L.length → okB n f L k = false → bookB n f L = false) := fun k a b => bookB_at k a b
  have HAll : Hid (rulesB n f = true → (∀ k, k < L.length → okB n f L k = true) → bookB n f L = true) := fun a b => bookB_all a b
  obtain ⟨uu, ⟨q, cap, rfl, hg⟩, hu, -⟩ := hs
  have HSl : Hid (SliceS w B rv n f) := hr
  have HG0 : Hid (MaxI w) := hG
  have HE0 : Hid (ErrsI w) := hE
  have HZ : Hid (∀ j, j < L.length → szS (atS L j)) := hz
  have HU : Hid (∀ j, j < L.length → SliceS w B' (uu j) (atS L j).2.length (atL (atS L j).2)) := hu
  have HF : Hid (∀ i, i < n → (f i).size ≤ 1048576) := hf
  have HGc : Hid (0 < L.length → ∃ g, q = some ⟨g, 0, none⟩ ∧ g < w.heap.size ∧ ∀ j, j < L.length → w.cell? ⟨g, j * 2, none⟩ = some (.string (atS L j).1) ∧ w.cell? ⟨g, j * 2 + 1, none⟩ = some (uu j)) := fun h0 => by
    obtain ⟨g, e, -, hgw, hc⟩ := hg h0
    exact ⟨g, e, hgw, fun j hj => ⟨(hc j hj 0 (by omega)).1, (hc j hj 1 (by omega)).1⟩⟩
  obtain ⟨rp, rc, rfl, -⟩ := hr
  clear hg hu hG hE hz hf
  generalize bookB n f L = R at *
  obtain ⟨W0, hW⟩ : ∃ W0, W0 = w.alloc (.cells #[.slice none 0 0, .slice none 0 0, .map none] 107) := ⟨_, rfl⟩
  have hW0 : Hid (W0 = w.alloc (.cells #[.slice none 0 0, .slice none 0 0, .map none] 107)) := hW
  have HB0 : Hid (Below w.heap.size w W0) := by show Below _ _ _; rw [hW]; exact (Below.refl _ _).alloc (Nat.le_refl _) _
  have z0 : w.heap.size < W0.heap.size := by rw [hW]; simp
  have a0 : W0.cell? ⟨w.heap.size, 0, none⟩ = some (.slice none 0 0) := by rw [hW]; simp
  have a1 : W0.cell? ⟨w.heap.size, 1, none⟩ = some (.slice none 0 0) := by rw [hW]; simp
  have a2 : W0.cell? ⟨w.heap.size, 2, none⟩ = some (.map none) := by rw [hW]; simp
  have af : Hid (∀ o, W0.frozen? ⟨w.heap.size, o, none⟩ = false) := by intro o; rw [hW]; simp
  clear hW
  have KR : Hid (Calls Tryd.prog 23 #[.slice rp n rc] W0 fun e w' => e = .returned (.bool (rulesB n f)) ∧ Below W0.heap.size W0 w') := rulesRight_any _ n B f W0 (HG0.out.on HB0.out) (HSl.out.below HB0.out) l1 HF.out
  generalize hrb : rulesB n f = rb at *
  go_enter Tryd.func95, Tryd.ntmps95
  go_upto_region 1 with fail
  rw [← hW0.out]
  clear hW0
  go_wp2_with fail
  refine KR.out.mono ?_
  rintro e w1 ⟨rfl, hb1⟩
  have B1 : Hid (Below w.heap.size w w1) := HB0.out.trans (hb1.mono HB0.out.size)
  have z1 : w.heap.size < w1.heap.size := Nat.lt_of_lt_of_le z0 hb1.size
  have b0 : w1.cell? ⟨w.heap.size, 0, none⟩ = some (.slice none 0 0) := ((bcell hb1).1 _ _ z0).trans a0
  have b1 : w1.cell? ⟨w.heap.size, 1, none⟩ = some (.slice none 0 0) := ((bcell hb1).1 _ _ z0).trans a1
  have b2 : w1.cell? ⟨w.heap.size, 2, none⟩ = some (.map none) := ((bcell hb1).1 _ _ z0).trans a2
  have bf : Hid (∀ o, w1.frozen? ⟨w.heap.size, o, none⟩ = false) := fun o => ((bcell hb1).2 _ _ z0).trans (af.out o)
  have E1 : Hid (ErrsI w1) := HE0.out.below B1.out
  clear hb1 a0 a1 a2 af KR HB0 HE0
  cases rb with
  | false =>
    have HQ : Hid (R = false) := HNo.out rfl
    obtain ⟨ety, ev, hev⟩ := E1.out.1
    have f0 := bf.out 0
    have f1 := bf.out 1
    have f2 := bf.out 2
    have s0 : w1.setCell ⟨w.heap.size, 0, none⟩ (.slice none 0 0) = w1 := setCell_same5 b0
    have s1 : w1.setCell ⟨w.heap.size, 1, none⟩ (.slice none 0 0) = w1 := setCell_same5 b1
    have s2 : w1.setCell ⟨w.heap.size, 2, none⟩ (.map none) = w1 := setCell_same5 b2
    have t0 : w1.drew.setCell ⟨w.heap.size, 0, none⟩ (.slice none 0 0) = w1.drew := setCell_same5 b0
    have t1 : w1.drew.setCell ⟨w.heap.size, 1, none⟩ (.slice none 0 0) = w1.drew := setCell_same5 b1
    have t2 : w1.drew.setCell ⟨w.heap.size, 2, none⟩ (.map none) = w1.drew := setCell_same5 b2
    clear HNo HAt HAll
    go_wp2_with fail
    go_region
    go_wp2
    exact bodyPost_ret (v := .tuple #[.agg #[.slice none 0 0, .slice none 0 0, .map none], .iface ety ev]) (by simp [results, Tryd.results95, go_sem, b0, b1, b2]) rfl ⟨.inr ⟨HQ.out, _, _, rfl⟩, B1.out.drew⟩
  | true =>
    have HAll1 : Hid ((∀ k, k < L.length → okB n f L k = true) → R = true) := HAll.out rfl
    clear HNo HAll
    have hmm := @run_makeMap Tryd.prog
    obtain ⟨W2, hW⟩ : ∃ W2, W2 = ((w1.alloc (.map #[] 0)).alloc (.cells #[.slice rp n rc, .slice none 0 0, .map (some w1.heap.size)] 107)) := ⟨_, rfl⟩
    have hW2 : Hid (W2 = ((w1.alloc (.map #[] 0)).alloc (.cells #[.slice rp n rc, .slice none 0 0, .map (some w1.heap.size)] 107))) := hW
    have HB2 : Hid (Below w1.heap.size w1 W2) := by show Below _ _ _; rw [hW]; exact ((Below.refl _ _).alloc (Nat.le_refl _) _).alloc (by simp) _
    have M2 : Hid (MapIs W2 w1.heap.size 0 (plOf L 0)) := by
      show MapIs _ _ _ _
      rw [hW]
      exact (mapIs_made w1).below ((Below.refl _ _).alloc (Nat.le_refl _) _)
    have K2 : Hid (BookR W2 w1.heap.size (w1.heap.size + 1) w1.heap.size (.slice rp n rc) [] (.slice none 0 0)) := by
      show BookR _ _ _ _ _ _ _
      rw [hW]
      exact ⟨by omega, Nat.le_refl _, (World.cell?_alloc_at _ _ _ _ (by simp)).trans rfl, (World.cell?_alloc_at _ _ _ _ (by simp)).trans rfl, (World.cell?_alloc_at _ _ _ _ (by simp)).trans rfl, fun o => World.frozen?_alloc_at _ _ _ _ (by simp), World.ownsRow_nil _ _ _ _, (by intro e; cases e), fun t ht => by cases ht⟩
    clear hW
    go_upto_region 4 with fail
    rw [← hW2.out]
    clear hW2 hmm
    go_wp2
    go_loopw [20] (fun i wr => ∃ (k : Nat) (T : List (SetL × Value)) (sv : Value), k ≤ L.length ∧ i = .int .i64 k ∧ Hid (T.map Prod.fst = L.take k) ∧ Hid (BookR wr w1.heap.size (w1.heap.size + 1) w1.heap.size (.slice rp n rc) T sv) ∧ Hid (MapIs wr w1.heap.size (5 * k) (plOf L k)) ∧ Hid (Below w1.heap.size w1 wr) ∧ Hid (∀ j, j < k → okB n f L j = true)) (fun i _ => L.length - (intOf i).toNat)
    case atStart => exact ⟨0, [], _, Nat.zero_le _, rfl, rfl, K2, M2, HB2, fun j hj => absurd hj (by omega)⟩
    case round =>
      obtain ⟨k, T, sv, hk, rfl, HT, HK, HM, HB, HR⟩ := hrel
      have r0 : wr.cell? ⟨w.heap.size, 0, none⟩ = some (.slice none 0 0) := ((bcell HB.out).1 _ _ z1).trans b0
      have r1 : wr.cell? ⟨w.heap.size, 1, none⟩ = some (.slice none 0 0) := ((bcell HB.out).1 _ _ z1).trans b1
      have r2 : wr.cell? ⟨w.heap.size, 2, none⟩ = some (.map none) := ((bcell HB.out).1 _ _ z1).trans b2
      have RF : Hid (∀ o, wr.frozen? ⟨w.heap.size, o, none⟩ = false) := fun o => ((bcell HB.out).2 _ _ z1).trans (bf.out o)
      have hz1r : w1.heap.size ≤ wr.heap.size := HB.out.size
      have BW : Hid (Below w.heap.size w wr) := B1.out.trans (HB.out.mono (Nat.le_of_lt z1))
      by_cases hlt : k < L.length
      · obtain ⟨g, rfl, hgw, hc⟩ := HGc.out (by omega)
        have h6 : k ≤ 6 := okB_six HR.out
        have hTl : T.length = k := by
          have := congrArg List.length HT.out
          rw [List.length_map, List.length_take] at this; omega
        have HTl : Hid (T.length = k) := hTl
        have c0 : wr.cell? ⟨g, k * 2, none⟩ = some (.string (atS L k).1) := ((bcell BW.out).1 _ _ hgw).trans (hc k hlt).1
        have c1 : wr.cell? ⟨g, k * 2 + 1, none⟩ = some (uu k) := ((bcell BW.out).1 _ _ hgw).trans (hc k hlt).2
        have k0 : (0 : Int) ≤ k := by omega
        have k1 : (k : Int) < L.length := by omega
        have SU : Hid (SliceS wr B' (uu k) (atS L k).2.length (atL (atS L k).2)) := (HU.out k hlt).below BW.out
        obtain ⟨up, uc, hup, -⟩ := SU.out
        obtain ⟨y1, y2, y3⟩ := HZ.out k hlt
        have KA0 : ∀ W, Below wr.heap.size wr W → Calls Tryd.prog 148 #[.pointer (some ⟨w1.heap.size + 1, 0, none⟩), .agg #[.string (atS L k).1, uu k]] W fun e w' =>
            ((addB n f (plOf L k) k (atS L k) = true ∧ e = .returned .nilIface ∧ (∃ u' sv', BookR w' w1.heap.size (w1.heap.size + 1) w1.heap.size (.slice rp n rc) (T ++ [(atS L k, u')]) sv') ∧ MapIs w' w1.heap.size (5 * k + 5) (plOf L (k + 1))) ∨ (addB n f (plOf L k) k (atS L k) = false ∧ (∃ ty v, e = .returned (.iface ty v)) ∧ BookR w' w1.heap.size (w1.heap.size + 1) w1.heap.size (.slice rp n rc) T sv ∧ MapIs w' w1.heap.size (5 * k + 5) (plOf L k))) ∧ Below w1.heap.size W w' := fun W hb => by
          have BWW : Below w.heap.size w W := BW.out.trans (hb.mono BW.out.size)
          have h := add_any w1.heap.size (w1.heap.size + 1) w1.heap.size (5 * k) n B B' (.slice rp n rc) sv (uu k) f T (plOf L k) (atS L k) W (HG0.out.on BWW) (HSl.out.below BWW) l1 HF.out (SU.out.below hb) y2 y1 y3 (HK.out.below hb) (HM.out.below hb) (by omega) (by omega) (E1.out.2.2.1.on (HB.out.trans (hb.mono HB.out.size)) (.inl (Nat.le_refl _))) (E1.out.2.2.2.1.on (HB.out.trans (hb.mono HB.out.size)) (.inl (Nat.le_refl _))) (E1.out.2.2.2.2.on (HB.out.trans (hb.mono HB.out.size)) (.inl (Nat.le_refl _)))
          rw [HTl.out] at h
          exact h
        have HOrd : Hid (∀ m, k = m + 1 → wr.cell? ⟨g, m * 2, none⟩ = some (.string (atS L m).1)) := fun m e => ((bcell BW.out).1 _ _ hgw).trans (hc m (by omega)).1
        have HNo : Hid (addB n f (plOf L k) k (atS L k) = false → R = false) := fun e => HAt.out k hlt (okB_add e)
        have HNext : Hid (∀ u', (T ++ [(atS L k, u')]).map Prod.fst = L.take (k + 1)) := fun u' => by rw [List.map_append, HT.out, take_snoc5 hlt]; rfl
        have HYes : Hid (addB n f (plOf L k) k (atS L k) = true → (k = 0 ∨ Op.bytesLess (atS L (k - 1)).1.toList (atS L k).1.toList = true) → ∀ j, j < k + 1 → okB n f L j = true) := fun a b => okB_succ HR.out (okB_yes a b)
        have HOrdN : Hid (∀ m, k = m + 1 → Op.bytesLess (atS L m).1.toList (atS L (m + 1)).1.toList = false → R = false) := fun m e h => by subst e; exact HAt.out (m + 1) hlt (okB_order h)
        have hge : ∀ (t : TypeId) (a b : ByteArray), binOp .geq t (.string a) (.string b) = pure (.bool (!(Op.bytesLess a.toList b.toList))) := geq_text
        rw [hup] at KA0 c1
        clear hc hup y1 y2 y3
        generalize (atS L k).2.length = nu at *
        generalize hpk : (atS L k).1 = pk at *
        obtain ⟨W3, hW⟩ : ∃ W3, W3 = wr.alloc (.cells #[.string pk, .slice up nu uc] 47) := ⟨_, rfl⟩
        have hW3 : Hid (W3 = wr.alloc (.cells #[.string pk, .slice up nu uc] 47)) := hW
        have HB3 : Hid (Below wr.heap.size wr W3) := by show Below _ _ _; rw [hW]; exact (Below.refl _ _).alloc (Nat.le_refl _) _
        have d0 : W3.cell? ⟨wr.heap.size, 0, none⟩ = some (.string pk) := by rw [hW]; simp
        have d1 : W3.cell? ⟨wr.heap.size, 1, none⟩ = some (.slice up nu uc) := by rw [hW]; simp
        have hz3 : wr.heap.size < W3.heap.size := by rw [hW]; simp
        have hwr : w.heap.size < wr.heap.size := Nat.lt_of_lt_of_le z1 hz1r
        have q0 : W3.cell? ⟨w.heap.size, 0, none⟩ = some (.slice none 0 0) := ((bcell HB3.out).1 _ _ hwr).trans r0
        have q1 : W3.cell? ⟨w.heap.size, 1, none⟩ = some (.slice none 0 0) := ((bcell HB3.out).1 _ _ hwr).trans r1
        have q2 : W3.cell? ⟨w.heap.size, 2, none⟩ = some (.map none) := ((bcell HB3.out).1 _ _ hwr).trans r2
        have QF : Hid (∀ o, W3.frozen? ⟨w.heap.size, o, none⟩ = false) := fun o => ((bcell HB3.out).2 _ _ hwr).trans (RF.out o)
        have KA : Hid (∀ W, Below W3.heap.size W3 W → Calls Tryd.prog 148 #[.pointer (some ⟨w1.heap.size + 1, 0, none⟩), .agg #[.string pk, .slice up nu uc]] W fun e w' =>
            ((addB n f (plOf L k) k (atS L k) = true ∧ e = .returned .nilIface ∧ (∃ u' sv', BookR w' w1.heap.size (w1.heap.size + 1) w1.heap.size (.slice rp n rc) (T ++ [(atS L k, u')]) sv') ∧ MapIs w' w1.heap.size (5 * k + 5) (plOf L (k + 1))) ∨ (addB n f (plOf L k) k (atS L k) = false ∧ (∃ ty v, e = .returned (.iface ty v)) ∧ BookR w' w1.heap.size (w1.heap.size + 1) w1.heap.size (.slice rp n rc) T sv ∧ MapIs w' w1.heap.size (5 * k + 5) (plOf L k))) ∧ Below w1.heap.size W w') := fun W hb => KA0 W (HB3.out.trans (hb.mono HB3.out.size))
        have BW3 : Hid (Below w.heap.size w W3) := BW.out.trans (HB3.out.mono BW.out.size)
        have BV3 : Hid (Below w1.heap.size w1 W3) := HB.out.trans (HB3.out.mono hz1r)
        clear hW KA0 HK HM HT HTl hTl r0 r1 r2 RF SU
        go_upto_region 7 with fail
        rw [← hW3.out]
        clear hW3
        cases k with
        | zero =>
          have q5 : decide ((0 : Int) < ((0 : Nat) : Int)) = false := by decide
          clear HOrd HOrdN
          go_region
          go_wp2_with fail
          refine (KA.out _ (by first | exact Below.drew (Below.refl _ _) | exact Below.refl _ _)).mono ?_
          rintro e w4 ⟨hres, hb4⟩
          have B4 : Hid (Below w1.heap.size w1 w4) := BV3.out.trans (by first | exact (Below.drew (Below.refl _ _)).trans hb4 | exact hb4)
          have BW4 : Hid (Below w.heap.size w w4) := B1.out.trans (B4.out.mono (Nat.le_of_lt z1))
          have p0 : w4.cell? ⟨w.heap.size, 0, none⟩ = some (.slice none 0 0) := ((bcell B4.out).1 _ _ z1).trans b0
          have p1 : w4.cell? ⟨w.heap.size, 1, none⟩ = some (.slice none 0 0) := ((bcell B4.out).1 _ _ z1).trans b1
          have p2 : w4.cell? ⟨w.heap.size, 2, none⟩ = some (.map none) := ((bcell B4.out).1 _ _ z1).trans b2
          have PF : Hid (∀ o, w4.frozen? ⟨w.heap.size, o, none⟩ = false) := fun o => ((bcell B4.out).2 _ _ z1).trans (bf.out o)
          clear hb4 q0 q1 q2 d0 d1
          rcases hres with ⟨ha, rfl, ⟨u', sv', hk4⟩, hm4⟩ | ⟨ha, ⟨ety, ev, rfl⟩, -, -⟩
          · have HR2 : Hid (∀ j, j < 0 + 1 → okB n f L j = true) := HYes.out ha (by first | exact .inl rfl | exact .inl trivial)
            have HK4 : Hid (BookR w4 w1.heap.size (w1.heap.size + 1) w1.heap.size (.slice rp n rc) (T ++ [(atS L 0, u')]) sv') := hk4
            have HM4 : Hid (MapIs w4 w1.heap.size (5 * (0 + 1)) (plOf L (0 + 1))) := hm4
            have HT4 := HNext.out u'
            have HT5 : Hid ((T ++ [(atS L 0, u')]).map Prod.fst = L.take (0 + 1)) := HT4
            clear ha hk4 hm4 HT4
            go_wp2
            go_roundw
            case rel => exact ⟨0 + 1, _, sv', by omega, by go_num, HT5, HK4, HM4, B4, HR2⟩
            case measure => simp [intOf]; omega
          · have HQ : Hid (R = false) := HNo.out ha
            have f0 := PF.out 0
            have f1 := PF.out 1
            have f2 := PF.out 2
            have s0 : w4.setCell ⟨w.heap.size, 0, none⟩ (.slice none 0 0) = w4 := setCell_same5 p0
            have s1 : w4.setCell ⟨w.heap.size, 1, none⟩ (.slice none 0 0) = w4 := setCell_same5 p1
            have s2 : w4.setCell ⟨w.heap.size, 2, none⟩ (.map none) = w4 := setCell_same5 p2
            clear ha
            go_wp2
            exact bodyPost_ret (v := .tuple #[.agg #[.slice none 0 0, .slice none 0 0, .map none], .iface ety ev]) (by simp [results, Tryd.results95, go_sem, p0, p1, p2]) rfl ⟨.inr ⟨HQ.out, _, _, rfl⟩, BW4.out⟩
        | succ m =>
          have cm := HOrd.out m rfl
          have cm3 : W3.cell? ⟨g, m * 2, none⟩ = some (.string (atS L m).1) := ((bcell HB3.out).1 _ _ (Nat.lt_trans hgw hwr)).trans cm
          have HON := HOrdN.out m rfl
          have q5 : decide ((0 : Int) < ((m : Int) + 1)) = true := by rw [decide_eq_true_iff]; omega
          have hw1 : IntKind.i64.wrap ((m : Int) + 1 - 1) = m := by
            rw [IntKind.wrap_i64]; omega
          have hw2 : IntKind.i64.wrap (m : Int) = m := by rw [IntKind.wrap_i64]; omega
          have m0 : (0 : Int) ≤ m := by omega
          have m1 : (m : Int) < L.length := by omega
          have HY2 : Hid (addB n f (plOf L (m + 1)) (m + 1) (atS L (m + 1)) = true → Op.bytesLess (atS L m).1.toList pk.toList = true → ∀ j, j < m + 1 + 1 → okB n f L j = true) := fun a b => HYes.out a (.inr b)
          rw [hpk] at HON
          clear HOrd HOrdN HYes cm
          generalize (atS L m).1 = pm at *
          cases hl : Op.bytesLess pm.toList pk.toList with
          | false =>
            have HQ : Hid (R = false) := HON hl
            obtain ⟨ety, ev, hev⟩ := E1.out.2.1.on BV3.out (.inl (Nat.le_refl _))
            have f0 := QF.out 0
            have f1 := QF.out 1
            have f2 := QF.out 2
            have s0 : W3.setCell ⟨w.heap.size, 0, none⟩ (.slice none 0 0) = W3 := setCell_same5 q0
            have s1 : W3.setCell ⟨w.heap.size, 1, none⟩ (.slice none 0 0) = W3 := setCell_same5 q1
            have s2 : W3.setCell ⟨w.heap.size, 2, none⟩ (.map none) = W3 := setCell_same5 q2
            clear HON HY2 KA HNo HNext
            go_region
            go_wp2_with fail
            go_region
            go_wp2
            exact bodyPost_ret (v := .tuple #[.agg #[.slice none 0 0, .slice none 0 0, .map none], .iface ety ev]) (by simp [results, Tryd.results95, go_sem, q0, q1, q2]) rfl ⟨.inr ⟨HQ.out, _, _, rfl⟩, BW3.out.drew.drew⟩
          | true =>
            have HYes : Hid (addB n f (plOf L (m + 1)) (m + 1) (atS L (m + 1)) = true → True → ∀ j, j < m + 1 + 1 → okB n f L j = true) := fun a _ => HY2.out a hl
            clear HON HY2
            go_region
            go_wp2_with fail
            refine (KA.out _ (by first | exact Below.drew (Below.refl _ _) | exact Below.refl _ _)).mono ?_
            rintro e w4 ⟨hres, hb4⟩
            have B4 : Hid (Below w1.heap.size w1 w4) := BV3.out.trans (by first | exact (Below.drew (Below.refl _ _)).trans hb4 | exact hb4)
            have BW4 : Hid (Below w.heap.size w w4) := B1.out.trans (B4.out.mono (Nat.le_of_lt z1))
            have p0 : w4.cell? ⟨w.heap.size, 0, none⟩ = some (.slice none 0 0) := ((bcell B4.out).1 _ _ z1).trans b0
            have p1 : w4.cell? ⟨w.heap.size, 1, none⟩ = some (.slice none 0 0) := ((bcell B4.out).1 _ _ z1).trans b1
            have p2 : w4.cell? ⟨w.heap.size, 2, none⟩ = some (.map none) := ((bcell B4.out).1 _ _ z1).trans b2
            have PF : Hid (∀ o, w4.frozen? ⟨w.heap.size, o, none⟩ = false) := fun o => ((bcell B4.out).2 _ _ z1).trans (bf.out o)
            clear hb4 q0 q1 q2 d0 d1
            rcases hres with ⟨ha, rfl, ⟨u', sv', hk4⟩, hm4⟩ | ⟨ha, ⟨ety, ev, rfl⟩, -, -⟩
            · have HR2 : Hid (∀ j, j < (m + 1) + 1 → okB n f L j = true) := HYes.out ha trivial
              have HK4 : Hid (BookR w4 w1.heap.size (w1.heap.size + 1) w1.heap.size (.slice rp n rc) (T ++ [(atS L (m + 1), u')]) sv') := hk4
              have HM4 : Hid (MapIs w4 w1.heap.size (5 * ((m + 1) + 1)) (plOf L ((m + 1) + 1))) := hm4
              have HT4 := HNext.out u'
              have HT5 : Hid ((T ++ [(atS L (m + 1), u')]).map Prod.fst = L.take ((m + 1) + 1)) := HT4
              clear ha hk4 hm4 HT4
              go_wp2
              go_roundw
              case rel => exact ⟨(m + 1) + 1, _, sv', by omega, by go_num, HT5, HK4, HM4, B4, HR2⟩
              case measure => simp [intOf]; omega
            · have HQ : Hid (R = false) := HNo.out ha
              have f0 := PF.out 0
              have f1 := PF.out 1
              have f2 := PF.out 2
              have s0 : w4.setCell ⟨w.heap.size, 0, none⟩ (.slice none 0 0) = w4 := setCell_same5 p0
              have s1 : w4.setCell ⟨w.heap.size, 1, none⟩ (.slice none 0 0) = w4 := setCell_same5 p1
              have s2 : w4.setCell ⟨w.heap.size, 2, none⟩ (.map none) = w4 := setCell_same5 p2
              clear ha
              go_wp2
              exact bodyPost_ret (v := .tuple #[.agg #[.slice none 0 0, .slice none 0 0, .map none], .iface ety ev]) (by simp [results, Tryd.results95, go_sem, p0, p1, p2]) rfl ⟨.inr ⟨HQ.out, _, _, rfl⟩, BW4.out⟩
      · obtain rfl : k = L.length := by omega
        have HQ : Hid (R = true) := HAll1.out HR.out
        have hl6 : L.length ≤ 6 := okB_six HR.out
        have x0 := HK.out.c0
        have x1 := HK.out.c1
        have x2 := HK.out.c2
        have f0 := RF.out 0
        have f1 := RF.out 1
        have f2 := RF.out 2
        obtain ⟨sp, sc, rfl⟩ : ∃ p c, sv = .slice p T.length c := by
          obtain ⟨_, ⟨rfl, h0⟩ | ⟨g, cap, cur, rfl, _⟩⟩ := HK.out.own
          · exact ⟨none, 0, by rw [h0]⟩
          · exact ⟨_, _, rfl⟩
        have HFin : Hid (∀ x y z : Value, BookIs (((wr.setCell ⟨w.heap.size, 0, none⟩ x).setCell ⟨w.heap.size, 1, none⟩ y).setCell ⟨w.heap.size, 2, none⟩ z) w.heap.size (.agg #[.slice rp n rc, .slice sp T.length sc, .map (some w1.heap.size)]) (.slice rp n rc) L) := fun x y z => ⟨w1.heap.size, _, _, T, _, Nat.le_of_lt z1, rfl, by rw [HT.out, List.take_length], ((HK.out.setLow z1).setLow z1).setLow z1, ((HM.out.mono (by omega)).far (by omega)).far (by omega) |>.far (by omega)⟩
        have HFB : Hid (∀ x y z : Value, Below w.heap.size w (((wr.setCell ⟨w.heap.size, 0, none⟩ x).setCell ⟨w.heap.size, 1, none⟩ y).setCell ⟨w.heap.size, 2, none⟩ z)) := fun x y z => ((BW.out.setCell (Nat.le_refl _) _).setCell (Nat.le_refl _) _).setCell (Nat.le_refl _) _
        go_wp2
        exact bodyPost_ret (v := .tuple #[.agg #[.slice rp n rc, .slice sp T.length sc, .map (some w1.heap.size)], .nilIface]) (by simp [results, Tryd.results95, go_sem, r0, r1, r2]) rfl ⟨.inl ⟨HQ.out, _, rfl, HFin.out _ _ _⟩, HFB.out _ _ _⟩
end Go.Proofs.YtfoekelhcmlagaaDoor

/- The law FnExactSetsRight, walked; the walk of the program's SetsRight. -/
namespace Go.Proofs.YtfoekelhcmlagaaDoor
open Go.RowKit Go.Maps

theorem bookR_slice {w : World} {B0 b bm : Nat} {rv sv : Value} {T : List (SetL × Value)} (h : BookR w B0 b bm rv T sv) : ∃ p c, sv = .slice p T.length c := by
  obtain ⟨_, ⟨rfl, h0⟩ | ⟨g, cap, cur, rfl, _⟩⟩ := h.own
  · exact ⟨none, 0, by rw [h0]⟩
  · exact ⟨_, _, rfl⟩
set_option maxRecDepth 10000 in
set_option maxHeartbeats 4000000 in
theorem setsRight_any (rv lv : Value) (n B B' : Nat) (f : Nat → ByteArray) (L : List SetL) (w : World) (hG : MaxI w) (hE : ErrsI w) (hr : SliceS w B rv n f) (l1 : n ≤ 1048576) (hf : ∀ i, i < n → (f i).size ≤ 1048576) (hs : SliceT w B' lv L) (hn : L.length ≤ 1048576) (hz : ∀ j, j < L.length → szS (atS L j)) :
    Calls Tryd.prog 33 #[rv, lv] w fun e w' => e = .returned (.bool (setsB n f L)) ∧ Below w.heap.size w w' := by
  have KB : Hid (Calls Tryd.prog 95 #[rv, lv] w fun e w' => ((setsB n f L = true ∧ ∃ v, e = .returned (.tuple #[v, .nilIface]) ∧ BookIs w' w.heap.size v rv L) ∨ (setsB n f L = false ∧ ∃ ty v, e = .returned (.tuple #[.agg #[.slice none 0 0, .slice none 0 0, .map none], .iface ty v]))) ∧ Below w.heap.size w w') := bookOf_any rv lv n B B' f L w hG hE hr l1 hf hs hn hz
  obtain ⟨rp, rc, rfl, -⟩ := hr
  clear hG hE hf hs hz
  generalize setsB n f L = R at *
  go_enter Tryd.func33, Tryd.ntmps33
  go_wp2_with fail
  refine KB.out.mono ?_
  rintro e w1 ⟨⟨rfl, v, rfl, hb⟩ | ⟨rfl, ty, v, rfl⟩, hb1⟩
  · obtain ⟨B1, b, bm, T, sv, -, rfl, -, hk, -⟩ := hb
    obtain ⟨sp, sc, rfl⟩ := bookR_slice hk
    clear hk
    go_wp2
    go_ret
    exact ⟨rfl, by first | exact hb1 | exact hb1.alloc hb1.size _⟩
  · go_wp2
    go_ret
    exact ⟨rfl, by first | exact hb1 | exact hb1.alloc hb1.size _⟩
set_option maxRecDepth 10000 in
set_option maxHeartbeats 4000000 in
theorem lawSetsRight_any (a0 : Option Addr) (n cap0 : Nat) (f : Nat → ByteArray) (a1 : Option Addr) (cap1 : Nat) (L : List SetL) (w : World) (hG : MaxI w) (hE : ErrsI w) (hr0 : StrRow w a0 n f) (hn0 : n ≤ maxLen) (hr1 : SetRow w a1 L) (hn1 : L.length ≤ maxLen) :
    Calls Tryd.prog 4 #[.slice a0 n cap0, .slice a1 L.length cap1] w fun e w' => e = .returned (.bool true) ∧ Below w.heap.size w w' := by
  have HR0 : Hid (StrRow w a0 n f) := hr0
  have HR1 : Hid (SetRow w a1 L) := hr1
  have HG : Hid (MaxI w) := hG
  have HE : Hid (ErrsI w) := hE
  clear hr0 hr1 hG hE
  go_enter Tryd.func4, Tryd.ntmps4
  go_wp2_with fail
  refine (szStringS_any a0 n cap0 f 1048576 _ HR0.out hn0 (by decide) (by decide)).mono ?_
  rintro e w0 ⟨⟨r, rfl, hr⟩, rfl⟩
  rcases hr with hr | ⟨r0, r1, hl, hf⟩
  · go_wp2
    go_ret
    exact ⟨rfl, Below.refl _ _⟩
  have q : decide (r < 0) = false := by rw [decide_eq_false_iff_not]; omega
  have hl2 : n ≤ 1048576 := by omega
  have HF : Hid (∀ i, i < n → (f i).size ≤ 1048576) := fun i hi => by have := hf i hi; omega
  clear hf hl
  go_wp2_with fail
  refine (szSiteSetS_any a1 cap1 L r _ HR1.out hn1 r0 (by omega)).mono ?_
  rintro e w1 ⟨⟨r', rfl, hr'⟩, hb1⟩
  have B1 : Hid (Below w0.heap.size w0 w1) := hb1
  clear hb1 r0 r1
  rcases hr' with hr' | ⟨r0, r1, hL, hz⟩
  · go_wp2
    go_ret
    exact ⟨rfl, B1.out⟩
  have q' : decide (r' < 0) = false := by rw [decide_eq_false_iff_not]; omega
  have HZ : Hid (∀ i, i < L.length → szS (atS L i)) := hz
  clear hz r0 r1
  have KT0 : Hid (∀ W, Below w0.heap.size w0 W → Calls Tryd.prog 31 #[.slice a0 n cap0] W fun e w' => ∃ v, e = .returned v ∧ SliceS w' W.heap.size v n f ∧ Below W.heap.size W w') := fun W hb => toStringS_any a0 n cap0 f W (HR0.out.below hb) hl2
  have KT1 : Hid (∀ W, Below w0.heap.size w0 W → Calls Tryd.prog 32 #[.slice a1 L.length cap1] W fun e w' => ∃ v, e = .returned v ∧ SliceT w' W.heap.size v L ∧ Below W.heap.size W w') := fun W hb => toSiteSetS_any a1 cap1 L W (HR1.out.below hb) hL (fun i hi => (HZ.out i hi).2.1)
  have KS : Hid (∀ (v v' : Value) (B B' : Nat) (W : World), SliceS W B v n f → SliceT W B' v' L → Calls Tryd.prog 30 #[v, v'] W fun e w' => e = .returned (.bool (setsB n f L)) ∧ Below W.heap.size W w') := fun v v' B B' W a b => specSetsRight_any v n B f v' L B' W a hl2 HF.out b hL (fun j hj => (HZ.out j hj).2.1)
  have KI : Hid (∀ (v v' : Value) (B B' : Nat) (W : World), Below w0.heap.size w0 W → SliceS W B v n f → SliceT W B' v' L → Calls Tryd.prog 33 #[v, v'] W fun e w' => e = .returned (.bool (setsB n f L)) ∧ Below W.heap.size W w') := fun v v' B B' W hb a b => setsRight_any v v' n B B' f L W (HG.out.on hb) (HE.out.below hb) a hl2 HF.out b hL HZ.out
  have KE1 : Hid (∀ (v v' : Value) (B B' : Nat) (W : World), SliceT W B v L → SliceT W B' v' L → Calls Tryd.prog 35 #[v, v'] W fun e w' => e = .returned (.bool true) ∧ Below W.heap.size W w') := fun v v' B B' W a b => eqSiteSetS_any v v' L B B' W a b hL (fun i hi => (HZ.out i hi).2.1)
  clear HG HE HF HZ HR0 HR1
  generalize setsB n f L = d at *
  go_wp2_with fail
  refine (KT0.out _ B1.out).mono ?_
  rintro e w2 ⟨v2, rfl, s2, hb2⟩
  have B2 : Hid (Below w0.heap.size w0 w2) := B1.out.trans (hb2.mono B1.out.size)
  have S2 : Hid (SliceS w2 w1.heap.size v2 n f) := s2
  clear s2 hb2
  go_wp2_with fail
  refine (KT1.out _ B2.out).mono ?_
  rintro e w3 ⟨v3, rfl, s3, hb3⟩
  have B3 : Hid (Below w0.heap.size w0 w3) := B2.out.trans (hb3.mono B2.out.size)
  have S2_3 : Hid (SliceS w3 w1.heap.size v2 n f) := S2.out.below hb3
  have S3 : Hid (SliceT w3 w2.heap.size v3 L) := s3
  clear s3 hb3 S2
  go_wp2_with fail
  refine (KS.out _ _ _ _ _ S2_3.out S3.out).mono ?_
  rintro e w4 ⟨rfl, hb4⟩
  have B4 : Hid (Below w0.heap.size w0 w4) := B3.out.trans (hb4.mono B3.out.size)
  clear hb4 S2_3 S3 KS
  go_wp2_with fail
  refine (KT0.out _ B4.out).mono ?_
  rintro e w5 ⟨v5, rfl, s5, hb5⟩
  have B5 : Hid (Below w0.heap.size w0 w5) := B4.out.trans (hb5.mono B4.out.size)
  have S5 : Hid (SliceS w5 w4.heap.size v5 n f) := s5
  clear s5 hb5
  go_wp2_with fail
  refine (KT1.out _ B5.out).mono ?_
  rintro e w6 ⟨v6, rfl, s6, hb6⟩
  have B6 : Hid (Below w0.heap.size w0 w6) := B5.out.trans (hb6.mono B5.out.size)
  have S5_6 : Hid (SliceS w6 w4.heap.size v5 n f) := S5.out.below hb6
  have S6 : Hid (SliceT w6 w5.heap.size v6 L) := s6
  clear s6 hb6 S5
  go_wp2_with fail
  refine (KI.out _ _ _ _ _ B6.out S5_6.out S6.out).mono ?_
  rintro e w7 ⟨rfl, hb7⟩
  have B7 : Hid (Below w0.heap.size w0 w7) := B6.out.trans (hb7.mono B6.out.size)
  have S5_7 : Hid (SliceS w7 w4.heap.size v5 n f) := S5_6.out.below hb7
  have S6_7 : Hid (SliceT w7 w5.heap.size v6 L) := S6.out.below hb7
  clear hb7 S5_6 S6 KI
  cases d
  all_goals
    go_wp2_with fail
    refine (KT0.out _ B7.out).mono ?_
    rintro e w8 ⟨v8, rfl, s8, hb8⟩
    have B8 : Hid (Below w0.heap.size w0 w8) := B7.out.trans (hb8.mono B7.out.size)
    have S5_8 := S5_7.out.below hb8
    have S6_8 : Hid (SliceT w8 w5.heap.size v6 L) := S6_7.out.below hb8
    clear hb8
    go_wp2_with fail
    refine (eqStringS_any v5 v8 n _ _ f _ S5_8 s8 (by omega)).mono ?_
    rintro e w9 ⟨rfl, hb9⟩
    have B9 : Hid (Below w0.heap.size w0 w9) := B8.out.trans (hb9.mono B8.out.size)
    have S6_9 : Hid (SliceT w9 w5.heap.size v6 L) := S6_8.out.below hb9
    clear hb9 S5_8 s8
    go_wp2_with fail
    refine (KT1.out _ B9.out).mono ?_
    rintro e w10 ⟨v10, rfl, s10, hb10⟩
    have B10 : Hid (Below w0.heap.size w0 w10) := B9.out.trans (hb10.mono B9.out.size)
    have S6_10 : Hid (SliceT w10 w5.heap.size v6 L) := S6_9.out.below hb10
    clear hb10
    go_wp2_with fail
    refine (KE1.out _ _ _ _ _ S6_10.out s10).mono ?_
    rintro e w11 ⟨rfl, hb11⟩
    go_wp2
    go_ret
    exact ⟨rfl, B10.out.trans (hb11.mono B10.out.size)⟩
end Go.Proofs.YtfoekelhcmlagaaDoor

/- The lifting of a law's walk to a row that lists package-level variables, the world's shape kept; what the shape and the list give a walk. -/
namespace Go.Proofs.YtfoekelhcmlagaaDoor
open Go.RowKit

theorem Ld.own : ownKnob Tryd.prog.godebug = none := by kernel_rfl
theorem Ld.laidOut : laidOutB Tryd.prog = true := by kernel_rfl
set_option maxRecDepth 10000 in
theorem lift_laid {H : Type} {enc : TypeId × Value → H} {os : Os} {f : FuncId} {fn : Func} {s : ChangeSpec} {X : World → Prop} (hX : ∀ (w w' : World), w.heap = w'.heap → X w → X w')
    (started : os.Started) (noInit : Tryd.prog.inits.idxOf? f = none) (hfn : Tryd.prog.funcs[f]? = some fn)
    (start : ∃ (w : World) (tape : Tape) (i : Input), w.os = os ∧ (w.forCall tape i).Shaped Tryd.prog ∧ i.vars = [] ∧ Input.okWide Tryd.prog (w.forCall tape i) .any w.heap.size f i ∧
      ((s.pre enc Tryd.prog fn [] false (w.forCall tape i).memory i.args ∧ X (w.forCall tape i).memory) ∧ sizedMet enc Tryd.prog fn (OpenSpec.ofChange s) false (w.forCall tape i).memory i.args) ∧ Assume.holds {} Tryd.prog (lone (Frame.enter Tryd.prog f i.args .normal) [] (w.forCall tape i)))
    (walk : ∀ (W : World) (base : Nat) (args : Array Value) (ds gs : List (DataW H)) (before : List MemPlace),
      (∀ (j : Nat) t v, fn.params[j]? = some t → args[j]? = some v → Value.okWide Tryd.prog W .any base t v) →
      DataW.Whole enc Tryd.prog fn.params.toList s.vars false W args.toList ds gs before → X W → W.ShapedOpen Tryd.prog →
      Calls Tryd.prog f args W fun e W' => ∃ v, e = .returned v ∧ s.post enc Tryd.prog fn false true false false W args v W') :
    ReturnsInHanded {} Tryd.checked os f .any (fun w args => (s.pre enc Tryd.prog fn [] false w args ∧ X w) ∧ sizedMet enc Tryd.prog fn (OpenSpec.ofChange s) false w args) (s.post enc Tryd.prog fn false true false false) := by
  refine returnsInHanded_of_calls (C := Tryd.checked) Ld.own started noInit start ?_
  intro w tape i _ hsh _ hok hpre _
  obtain ⟨_, _, _, fn2, hfn2, _, _, _, _, hval⟩ := hok
  obtain rfl : fn2 = fn := Option.some.inj (hfn2.symm.trans hfn)
  obtain ⟨⟨⟨ds, gs, before, hw, _⟩, hx⟩, _⟩ := hpre
  have hw2 := DataW.Whole.of_heap (w' := w.forCall tape i) (by rfl) hw
  refine (walk (w.forCall tape i) w.heap.size i.args ds gs before hval hw2 (hX _ _ (by rfl) hx) hsh).mono fun e W' ⟨v, he, hp⟩ => ?_
  subst he
  exact ChangeSpec.post_blind hp
set_option maxRecDepth 10000 in
theorem maxI_of_shape {W : World} (h : W.ShapedOpen Tryd.prog) : MaxI W := Tryd.lays146.s1_3 W h
end Go.Proofs.YtfoekelhcmlagaaDoor

/- What a row's list of package-level variables gives a walk: the program's words of kinds, the library's two errors; a listed variable that reads behind the call as before it. -/
namespace Go.Proofs.YtfoekelhcmlagaaDoor
open Go.RowKit Go.ChangeShapes

theorem plain_of {l : List (String × DataW Unit)} {W : World} (hh : (l.all fun x => x.2.handleName?.isNone) = true) (h : laidMetH Tryd.prog l W) : laidMet Tryd.prog l W := by
  rw [MakeChecks.laidMetH_plain _ _ _ hh] at h; exact h
/-- a listed variable of an interface type holds a value of some type -/
theorem iface_of_met {P : Program} {W : World} {n nm : String} {d : DataW Unit} {r : List (String × DataW Unit)} {g : Nat} {ti : TypeId} {ms : Array (String × TypeId)} (h : laidMet P ((n, .iface nm d) :: r) W)
    (hg : P.globalNamed n = some g) (ht : (P.globals[g]?).map (·.type) = some ti) (hi : P.underlying ti = some (.interface ms)) : ∃ u v, W.cell? ⟨g, 0, none⟩ = some (.iface u v) := by
  obtain ⟨ps, ⟨g0, t0, cs0, f0, p0, q0, hg0, ht0, hv0, hd0, _, _⟩, _, _⟩ := h
  obtain rfl := Option.some.inj (hg.symm.trans hg0)
  obtain rfl := Option.some.inj (ht.symm.trans ht0)
  obtain ⟨_, u, v, hc, _, _⟩ := iface_of_trod hi hd0
  refine ⟨u, v, ?_⟩
  rw [World.var?_cell hg0 hv0 0, ← Array.getElem?_toList, hc]
  rfl
/-- one listed variable reads on -/
theorem vars_on {H : Type} {enc : TypeId × Value → H} {n : String} {g : Nat} {t : TypeId} {cs : Array Value} {fuel : Nat} {d : DataW H} {p : List MemPlace} {W W' : World}
    (hr : Tryd.prog.readableRec t = true) (hrow : t < Tryd.prog.types.size) (hg : Tryd.prog.globalNamed n = some g) (ht : (Tryd.prog.globals[g]?).map (·.type) = some t) (hv : W.var? Tryd.prog n = some cs) (hlt : g < W.heap.size)
    (hd : DataW.trod enc Tryd.prog W 0 (fun _ => true) true fuel t cs.toList = some (d, p)) (hb : Below W.heap.size W W') :
    DataW.TrodVars enc Tryd.prog W' (fun b => decide (b < W.heap.size)) [n] [d] (MemPlace.row ⟨g, 0, none⟩ cs.size ++ p) := by
  have k : DataW.Trod enc Tryd.prog W 0 (fun _ => true) true t (.agg cs) d p := ⟨fuel, hd⟩
  obtain ⟨f', hd'⟩ := Below.trod Ld.laidOut hr hrow k hb (DataW.trod_lt fuel _ _ _ hd)
  exact trodVars_mk1 hg ht (var?_below hb hg hlt hv) hd'
theorem var_lt {P : Program} {W : World} {n : String} {g : Nat} {cs : Array Value} (hg : P.globalNamed n = some g) (hv : W.var? P n = some cs) : g < W.heap.size := by
  unfold World.var? at hv
  simp only [hg, Option.bind_some] at hv
  by_cases h : g < W.heap.size
  · exact h
  · rw [Array.getElem?_eq_none (by omega)] at hv; simp at hv
end Go.Proofs.YtfoekelhcmlagaaDoor

/- What a row's list of the program's five errors gives a walk; listed variables that read behind the call as before it. -/
namespace Go.Proofs.YtfoekelhcmlagaaDoor
open Go.RowKit Go.ChangeShapes

theorem varsAll_on {H : Type} {enc : TypeId × Value → H} {W W' : World} (hb : Below W.heap.size W W') : ∀ {ns : List String} {ds : List (DataW H)} {ps : List MemPlace}, (∀ n ∈ ns, ∀ g t, Tryd.prog.globalNamed n = some g → (Tryd.prog.globals[g]?).map (·.type) = some t → Tryd.prog.readableRec t = true ∧ t < Tryd.prog.types.size) →
    DataW.TrodVars enc Tryd.prog W (fun _ => true) ns ds ps → DataW.TrodVars enc Tryd.prog W' (fun b => decide (b < W.heap.size)) ns ds ps
  | [], [], _, _, h => h
  | n :: ns, d :: ds, ps, hr, ⟨g, t, cs, fuel, p, q, h1, h2, h3, h4, hs, e⟩ => by
    obtain ⟨r1, r2⟩ := hr n (List.mem_cons_self ..) g t h1 h2
    have k : DataW.Trod enc Tryd.prog W 0 (fun _ => true) true t (.agg cs) d p := ⟨fuel, h4⟩
    obtain ⟨f', hd'⟩ := Below.trod Ld.laidOut r1 r2 k hb (DataW.trod_lt fuel _ _ _ h4)
    exact ⟨g, t, cs, f', p, q, h1, h2, var?_below hb h1 (var_lt h1 h3) h3, hd', varsAll_on hb (fun n hn => hr n (List.mem_cons_of_mem _ hn)) hs, e⟩
theorem vars5 {H : Type} {enc : TypeId × Value → H} {P : Program} {W : World} {sp : Nat → Bool} {n1 n2 n3 n4 n5 : String} {gs : List (DataW H)} {ps : List MemPlace} (h : DataW.TrodVars enc P W sp [n1, n2, n3, n4, n5] gs ps) : ∃ d1 d2 d3 d4 d5, gs = [d1, d2, d3, d4, d5] := by
  match gs, h with
  | [], h => exact h.elim
  | d1 :: r1, ⟨_, _, _, _, _, _, _, _, _, _, h, _⟩ =>
  match r1, h with
  | [], h => exact h.elim
  | d2 :: r2, ⟨_, _, _, _, _, _, _, _, _, _, h, _⟩ =>
  match r2, h with
  | [], h => exact h.elim
  | d3 :: r3, ⟨_, _, _, _, _, _, _, _, _, _, h, _⟩ =>
  match r3, h with
  | [], h => exact h.elim
  | d4 :: r4, ⟨_, _, _, _, _, _, _, _, _, _, h, _⟩ =>
  match r4, h with
  | [], h => exact h.elim
  | d5 :: r5, ⟨_, _, _, _, _, _, _, _, _, _, h, _⟩ =>
  match r5, h with
  | [], _ => exact ⟨d1, d2, d3, d4, d5, rfl⟩
  | _ :: _, h => exact h.elim
theorem errNames_read : ∀ n ∈ ["loop.example/g00551/impl.errRules", "loop.example/g00551/impl.errOrder", "loop.example/g00551/impl.errMany", "loop.example/g00551/impl.errWrong", "loop.example/g00551/impl.errTaken"], ∀ g t, Tryd.prog.globalNamed n = some g → (Tryd.prog.globals[g]?).map (·.type) = some t → Tryd.prog.readableRec t = true ∧ t < Tryd.prog.types.size := by
  have key : ∀ n g0, Tryd.prog.globalNamed n = some g0 → (Tryd.prog.globals[g0]?).map (·.type) = some 109 → ∀ g t, Tryd.prog.globalNamed n = some g → (Tryd.prog.globals[g]?).map (·.type) = some t → Tryd.prog.readableRec t = true ∧ t < Tryd.prog.types.size := fun n g0 h1 h2 g t h3 h4 => by
    obtain rfl := Option.some.inj (h1.symm.trans h3)
    obtain rfl := Option.some.inj (h2.symm.trans h4)
    exact ⟨by kernel_rfl, of_decide_eq_true (by kernel_rfl)⟩
  intro n hn
  simp only [List.mem_cons, List.not_mem_nil, or_false] at hn
  rcases hn with rfl | rfl | rfl | rfl | rfl
  · exact key _ 0 (by kernel_rfl) (by kernel_rfl)
  · exact key _ 1 (by kernel_rfl) (by kernel_rfl)
  · exact key _ 2 (by kernel_rfl) (by kernel_rfl)
  · exact key _ 3 (by kernel_rfl) (by kernel_rfl)
  · exact key _ 5 (by kernel_rfl) (by kernel_rfl)
end Go.Proofs.YtfoekelhcmlagaaDoor
