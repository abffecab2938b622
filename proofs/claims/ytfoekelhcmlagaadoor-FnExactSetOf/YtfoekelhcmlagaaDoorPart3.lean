/- 5 of this claim's texts, one behind the other. -/
import Derived.Test.YtfoekelhcmlagaaDoorPart2
import Derived.Test.YtfoekelhcmlagaaDoorPart1
import Derived.Deep.DeepCutAuto
import Derived.Laws.AppendOwn
/- The walk of the program's take. -/
namespace Go.Proofs.YtfoekelhcmlagaaDoor
open Go.RowKit Go.Maps

theorem newB_at {pl : ByteArray → Option Nat} {v : Nat} {D : List ByteArray} (j : Nat) (hj : j < D.length) (h : (plTo pl v D j (atL D j)).isSome = true) : newB pl v D = false := by
  unfold newB
  rw [decide_eq_false_iff_not]
  intro h'
  rw [h' j hj] at h; cases h
theorem newB_all {pl : ByteArray → Option Nat} {v : Nat} {D : List ByteArray} (h : ∀ j, j < D.length → plTo pl v D j (atL D j) = none) : newB pl v D = true := by
  unfold newB; rw [decide_eq_true h]
theorem ownsMap_drew {w : World} {bm N : Nat} {D : DataW Unit} (h : w.ownsMap Tryd.prog 9 (plainElem Tryd.prog 3) bm N D) : w.drew.ownsMap Tryd.prog 9 (plainElem Tryd.prog 3) bm N D := h
theorem grown_drew (w : World) (r : Option Nat) : w.grownBy w.drew r := ⟨rfl, rfl, rfl, Nat.le_refl _, fun _ _ _ => rfl⟩
theorem own_cap {w : World} {B n sz m c : Nat} {e : TypeId} {p : Option Addr} {xs : List Value} (h : w.ownsRow B e sz (.slice p m c) n xs) : n ≤ c := by
  obtain ⟨_, ⟨_, h0⟩ | ⟨g, cap, cur, hv, _, _, hc, _⟩⟩ := h
  · omega
  · injection hv with _ _ e
    omega
/-- an error stands in a package variable -/
def ErrAt (w : World) (g : Nat) : Prop := ∃ ty v, w.cell? ⟨g, 0, none⟩ = some (.iface ty v)
set_option maxRecDepth 10000 in
set_option maxHeartbeats 8000000 in
theorem take_any (b bm N ns sc : Nat) (sp : Option Addr) (x : SetL) (u : Value) (B : Nat) (pl : ByteArray → Option Nat) (w : World) (hs : SliceS w B u x.2.length (atL x.2)) (hM : 0 < x.2.length) (hn : x.2.length ≤ 4) (hz1 : x.1.size ≤ 1048576) (hz : ∀ i, i < x.2.length → (atL x.2 i).size ≤ 1048576)
    (hb1 : w.cell? ⟨b, 1, none⟩ = some (.slice sp ns sc)) (hb2 : w.cell? ⟨b, 2, none⟩ = some (.map (some bm))) (hm : MapIs w bm N pl) (hN : N ≤ 1000) (hns : ns ≤ 1000) (hE : ErrAt w 5) :
    Calls Tryd.prog 183 #[.pointer (some ⟨b, 0, none⟩), .agg #[.string x.1, u]] w fun e w' =>
      ((newB pl ns (allD x) = true ∧ e = .returned .nilIface ∧ MapIs w' bm (N + 5) (plTo pl ns (allD x) (allD x).length)) ∨ (newB pl ns (allD x) = false ∧ (∃ ty v, e = .returned (.iface ty v)) ∧ MapIs w' bm (N + 5) pl)) ∧ w.grownBy w' (some bm) := by
  obtain ⟨p, M⟩ := x
  dsimp only at hs hM hn hz1 hz ⊢
  obtain ⟨i0, hi, hy0, hy1, hy2⟩ := info_parts infoStr2
  have HB : Hid (Below w.heap.size w ((w.alloc (.cells #[.string p, u] 47)).alloc (.cells #[.string p] 9))) := ((Below.refl _ _).alloc (Nat.le_refl _) _).alloc (by simp) _
  have HO : Hid (((w.alloc (.cells #[.string p, u] 47)).alloc (.cells #[.string p] 9)).ownsRow w.heap.size 9 1 (.slice (some ⟨w.heap.size + 1, 0, none⟩) 1 1) 1 [.string p]) := by
    have := own_one5 (w.alloc (.cells #[.string p, u] 47)) w.heap.size 9 (.string p) (by simp)
    show World.ownsRow _ _ _ _ _ _ _
    simpa using this
  have HS : Hid (SliceS w B u M.length (atL M)) := hs
  have HE5 : Hid (∀ v w', w'.ownsRow w.heap.size 9 1 v (1 + M.length) ([.string p] ++ strCells M) → SliceS w' w.heap.size v (allD (p, M)).length (atL (allD (p, M)))) := fun v w' h => slice_of_own (L := p :: M) (by rw [List.length_cons, Nat.add_comm]; exact h)
  have HZ : Hid (∀ j, j < (allD (p, M)).length → (atL (allD (p, M)) j).size ≤ 1048576) := fun j hj => by
    cases j with
    | zero => exact hz1
    | succ j =>
      have e : atL (allD (p, M)) (j + 1) = atL M j := by simp [atL, allD]
      rw [e]; exact hz j (by simpa [allD] using hj)
  have HLen : Hid ((allD (p, M)).length = M.length + 1) := rfl
  have hD5 : (allD (p, M)).length ≤ 5 := by have := HLen.out; omega
  have hD0 : 0 < (allD (p, M)).length := by have := HLen.out; omega
  have HNB : Hid ((∀ j, j < (allD (p, M)).length → (plTo pl ns (allD (p, M)) j (atL (allD (p, M)) j)).isSome = true → newB pl ns (allD (p, M)) = false) ∧ ((∀ j, j < (allD (p, M)).length → plTo pl ns (allD (p, M)) j (atL (allD (p, M)) j) = none) → newB pl ns (allD (p, M)) = true)) := ⟨fun j a b => newB_at j a b, newB_all⟩
  obtain ⟨ety, ev, hev⟩ := hE
  have HMp : Hid (MapIs w bm N pl) := hm
  have hbm : b ≠ bm := hm.ne hb2
  have hem : 5 ≠ bm := hm.ne hev
  clear hs hz hz1 hm
  generalize newB pl ns (allD (p, M)) = R at *
  obtain ⟨q, cap, rfl, hg⟩ := HS.out
  obtain ⟨g, rfl, -, hgw, hc⟩ := hg hM
  have HN : Hid (∀ j v, (strCells M)[j]? = some v → ((w.alloc (.cells #[.string p, .slice (some ⟨g, 0, none⟩) M.length cap] 47)).alloc (.cells #[.string p] 9)).cell? ((⟨g, 0, none⟩ : Addr).add j) = some v) := by
    intro j v hv
    have hj : j < M.length := by
      have := (List.getElem?_eq_some_iff.1 hv).1
      simpa [strCells] using this
    have e : v = .string (atL M j) := by
      simp [strCells, hj] at hv
      rw [← hv]; simp [atL, hj]
    rw [Addr.add_lit, Nat.zero_add, (bcell HB.out).1 _ _ hgw, (hc j hj).1, e]
  have HC : Hid (∀ v ∈ strCells M, v.oneCell' = true) := by
    intro v hv
    unfold strCells at hv
    rw [List.mem_map] at hv
    obtain ⟨x, _, rfl⟩ := hv
    rfl
  clear hg hc
  generalize allD (p, M) = D at *
  go_enter Tryd.func183, Tryd.ntmps183
  go_wp2_with (at_builtin; go_must (refine wpList_append_own _ rfl _ _ 23 rfl w.heap.size 9 i0 (.string ⟨#[]⟩) 1 16 Tryd.underlying23 hi hy0 hy1 hy2 rfl (by decide) _ _ _ rfl HO.out ⟨g, 0, none⟩ M.length cap (strCells M) rfl (by simp [strCells]) HN.out HC.out (by unfold maxLen; omega) (by omega) HB.out.size ?_))
  intro v1 w1 ho1 hg1 hn1
  have B1 : Hid (Below w.heap.size w w1) := HB.out.grown hg1 (by simp; omega) (fun j hj => by simp [Value.ownBlock] at hj; omega)
  have S1 : Hid (SliceS w1 w.heap.size v1 D.length (atL D)) := HE5.out v1 w1 ho1
  obtain ⟨dp, dc, rfl, hd⟩ := S1.out
  have hdcap : D.length ≤ dc := by have := own_cap ho1; have := HLen.out; omega
  clear ho1 hg1 hn1 HE5 HO HN HC HB
  obtain ⟨dg, rfl, -, hdw, hdc⟩ := hd (by omega)
  have HD : Hid (∀ j, j < D.length → w1.cell? ⟨dg, j, none⟩ = some (.string (atL D j))) := fun j hj => (hdc j hj).1
  have M1 : Hid (MapIs w1 bm N pl) := HMp.out.below B1.out
  have hbw : b < w.heap.size := World.block_lt_of_cell? w _ hb1
  have hew : 5 < w.heap.size := World.block_lt_of_cell? w _ hev
  have p1 : w1.cell? ⟨b, 1, none⟩ = some (.slice sp ns sc) := ((bcell B1.out).1 _ _ hbw).trans hb1
  have p2 : w1.cell? ⟨b, 2, none⟩ = some (.map (some bm)) := ((bcell B1.out).1 _ _ hbw).trans hb2
  have p3 : w1.cell? ⟨5, 0, none⟩ = some (.iface ety ev) := ((bcell B1.out).1 _ _ hew).trans hev
  clear hd hdc S1 HMp hb1 hb2 hev
  go_wp2
  go_loopw [18] (fun i wr => ∃ k : Nat, k ≤ D.length ∧ i = .int .i64 k ∧ Hid (MapIs wr bm (N + k) (plTo pl ns D k)) ∧ Hid (w1.grownBy wr (some bm)) ∧ Hid (∀ j, j < k → plTo pl ns D j (atL D j) = none)) (fun i _ => D.length - (intOf i).toNat)
  case atStart => exact ⟨0, Nat.zero_le _, rfl, M1, grown_refl _ _, fun j hj => absurd hj (by omega)⟩
  case round =>
    obtain ⟨k, hk, rfl, HMk, HGk, HNk⟩ := hrel
    have c1 : wr.cell? ⟨b, 1, none⟩ = some (.slice sp ns sc) := grown_cell HGk.out p1 hbm
    have c2 : wr.cell? ⟨b, 2, none⟩ = some (.map (some bm)) := grown_cell HGk.out p2 hbm
    by_cases hlt : k < D.length
    · have c0 : wr.cell? ⟨dg, k, none⟩ = some (.string (atL D k)) := grown_cell HGk.out (HD.out k hlt) (M1.out.ne (HD.out k hlt))
      have j0 : (0 : Int) ≤ k := by omega
      have j1 : (k : Int) < D.length := by omega
      have j2 : (k : Int) ≤ dc := by omega
      have HSz : Hid ((atL D k).size ≤ maxLen) := by have := HZ.out k hlt; show _ ≤ _; unfold maxLen; omega
      obtain ⟨DD, hown, hview⟩ := HMk.out
      have HV : Hid (∀ d : ByteArray, Maps.has DD (keyD d) = ((plTo pl ns D k) d).isSome ∧ ∀ p, (plTo pl ns D k) d = some p → DD.atKey (keyD d) (.lit (.int .i64 0)) = .lit (.int .i64 (p : Int))) := hview
      have HOW : Hid (wr.ownsMap Tryd.prog 9 (plainElem Tryd.prog 3) bm (N + k) DD) := hown
      have hv1 := (hview (atL D k)).1
      clear hown hview
      cases hsm : (plTo pl ns D k (atL D k)).isSome with
      | true =>
        have hh : Maps.has DD (.string (atL D k).data.toList) = true := hv1.trans hsm
        have HQ : Hid (R = false) := HNB.out.1 k hlt hsm
        have KG : Hid (Calls Tryd.prog 207 #[.pointer (some ⟨b, 0, none⟩), .slice (some ⟨dg, 0, none⟩) k dc] wr fun e w' => e = .returned (.tuple #[]) ∧ MapIs w' bm (N + k) (dlTo (plTo pl ns D k) D k) ∧ wr.grownBy w' (some bm)) := giveBack_any b bm dg k dc (N + k) D (plTo pl ns D k) wr hk (by omega) HZ.out c2 (fun j hj => grown_cell HGk.out (HD.out j (by omega)) (M1.out.ne (HD.out j (by omega)))) HMk.out
        have p4 : wr.cell? ⟨5, 0, none⟩ = some (.iface ety ev) := grown_cell HGk.out p3 hem
        have HBack : Hid (∀ w', MapIs w' bm (N + k) (dlTo (plTo pl ns D k) D k) → MapIs w' bm (N + 5) pl) := fun w' h => (h.congr (given_back pl ns D k HNk.out)).mono (by omega)
        clear hv1 hsm
        generalize atL D k = d at *
        go_wp2_with (at_lookup; go_must (refine wpList_lookup_own_ok_int _ rfl _ _ 105 rfl 9 3 .i64 strKeyed Tryd.underlying105 Tryd.underlying3 (zeroI _) bm (N + k) DD rfl HOW.out _ _ rfl (Go.WideMaps.keyOf_string_mk Tryd.underlying9 HSz.out) ?_); intro c hat hwc)
        refine KG.out.mono ?_
        rintro e w2 ⟨rfl, hm2, hg2⟩
        have p5 : w2.cell? ⟨5, 0, none⟩ = some (.iface ety ev) := grown_cell hg2 p4 hem
        have M2 : Hid (MapIs w2 bm (N + 5) pl) := HBack.out w2 hm2
        have G2 : Hid (w.grownBy w2 (some bm)) := grown_trans (grown_below B1.out _) (grown_trans HGk.out hg2)
        clear hm2 hg2
        go_wp2
        go_ret
        exact ⟨.inr ⟨HQ.out, ⟨_, _, rfl⟩, M2.out⟩, G2.out⟩
      | false =>
        have hh : Maps.has DD (.string (atL D k).data.toList) = false := hv1.trans hsm
        have hnone : plTo pl ns D k (atL D k) = none := by
          cases e : plTo pl ns D k (atL D k) with
          | none => rfl
          | some v => rw [e] at hsm; cases hsm
        have HN2 : Hid (∀ j, j < k + 1 → plTo pl ns D j (atL D j) = none) := fun j hj => by
          by_cases e : j = k
          · subst e; exact hnone
          · exact HNk.out j (by omega)
        obtain ⟨w', hrun, hown', hg'⟩ := (ownsMap_drew HOW.out).update strKeyed Tryd.underlying105 (by unfold maxLen; omega) (Go.WideMaps.keyOf_string_mk Tryd.underlying9 HSz.out) (plainElem_int Tryd.underlying3 (WalkArith.wf_i64 (n := (ns : Int)) (by omega)))
        have M2 : Hid (MapIs w' bm (N + (k + 1)) (plTo pl ns D (k + 1))) := mapIs_put HOW.out.isMap HV.out hown'
        have G2 : Hid (w1.grownBy w' (some bm)) := grown_trans HGk.out (grown_trans (grown_drew wr _) hg')
        clear hv1 hsm hnone hown' hg'
        generalize atL D k = d at *
        go_wp2_with (at_lookup; go_must (refine wpList_lookup_own_ok_int _ rfl _ _ 105 rfl 9 3 .i64 strKeyed Tryd.underlying105 Tryd.underlying3 (zeroI _) bm (N + k) DD rfl HOW.out _ _ rfl (Go.WideMaps.keyOf_string_mk Tryd.underlying9 HSz.out) ?_); intro c hat hwc)
        go_region
        go_wp2
        go_roundw
        case rel => exact ⟨k + 1, by omega, by go_num, M2, G2, HN2⟩
        case measure => simp [intOf]; omega
    · obtain rfl : k = D.length := by omega
      have HQ : Hid (R = true) := HNB.out.2 HNk.out
      have M2 : Hid (MapIs wr bm (N + 5) (plTo pl ns D D.length)) := HMk.out.mono (by omega)
      have G2 : Hid (w.grownBy wr (some bm)) := grown_trans (grown_below B1.out _) HGk.out
      go_wp2
      go_ret
      exact ⟨.inl ⟨HQ.out, rfl, M2.out⟩, G2.out⟩
end Go.Proofs.YtfoekelhcmlagaaDoor

/- The walk of together: two texts put together in new memory. -/
namespace Go.Proofs.YtfoekelhcmlagaaDoor
open Go.RowKit


set_option maxRecDepth 10000 in
set_option maxHeartbeats 400000 in
theorem together_full (x y : ByteArray) (w : World) (hz : x.size + y.size ≤ 1000000) (hy : ¬ y = ByteArray.empty) :
    Calls Tryd.prog 79 #[.string x, .string y] w fun e w' => e = .returned (.string (x ++ y)) ∧ Below w.heap.size w w' := by
  obtain ⟨w1, Z, hmk, HG1, hZ, hs1, hb1⟩ := make_row (P := Tryd.prog) w 22 5 _ Tryd.underlying22 infoU8 ((x.size : Int) + (y.size : Int)) (x.size + y.size) (by omega) (by omega)
  go_enter Tryd.func79, Tryd.ntmps79
  go_wp2_with fail
  obtain ⟨w2, hc2, HG2, hs2, hB2⟩ := copy_text (P := Tryd.prog) w1 22 9 3 5 Tryd.underlying22 sizeU8 (some ⟨w.heap.size, 0, none⟩) (x.size + y.size) (x.size + y.size) x (by omega) w.heap.size 0 Z _ HG1 (fun _ => rfl) (by omega)
  have hb2 := hB2 _ _ hb1 (Nat.le_refl _)
  rw [hc2]
  clear hc2 hmk hB2 HG1 hb1
  go_wp2_with fail
  have hl2 : (splice Z 0 (Lib.byteCells x.data.toList)).length = x.size + y.size := by rw [length_splice _ _ _ (by rw [len_cells]; omega), hZ]
  obtain ⟨w3, hc3, HG3, hs3, hB3⟩ := copy_text (P := Tryd.prog) w2 22 9 3 5 Tryd.underlying22 sizeU8 (some ⟨w.heap.size, x.size, none⟩) y.size y.size y (by omega) w.heap.size x.size _ _ HG2 (fun _ => rfl) (by omega)
  have hb3 := hB3 _ _ hb2 (Nat.le_refl _)
  have HG4 : RowAt w3 w.heap.size 5 (Lib.byteCells (x.data.toList ++ y.data.toList) ++ []) := by
    have e := splice_two Z (Lib.byteCells x.data.toList) (Lib.byteCells y.data.toList) (by rw [len_cells, len_cells]; exact hZ)
    rw [len_cells] at e
    rw [e, ← byteCells_append, ← List.append_nil (Lib.byteCells _)] at HG3
    exact HG3
  rw [hc3]
  clear hc3 hB3 HG2 HG3 hb2 hl2
  go_wp2_with fail
  rw [text_of_row (P := Tryd.prog) w3 22 9 5 Tryd.underlying22 Tryd.underlying5 Tryd.underlying9 w.heap.size (x.size + y.size) (x.size + y.size) 5 _ _ HG4 (by rw [List.length_append, ← Lib.size_eq, ← Lib.size_eq])]
  go_wp2
  go_ret
  exact ⟨ret_text (text_append x y), hb3⟩

set_option maxRecDepth 10000 in
set_option maxHeartbeats 400000 in
theorem together_empty (x : ByteArray) (w : World) (hz : x.size ≤ 1000000) :
    Calls Tryd.prog 79 #[.string x, .string ByteArray.empty] w fun e w' => e = .returned (.string x) ∧ Below w.heap.size w w' := by
  obtain ⟨w1, Z, hmk, HG1, hZ, hs1, hb1⟩ := make_row (P := Tryd.prog) w 22 5 _ Tryd.underlying22 infoU8 (x.size : Int) x.size (by omega) (by omega)
  go_enter Tryd.func79, Tryd.ntmps79
  go_wp2_with fail
  obtain ⟨w2, hc2, HG2, hs2, hB2⟩ := copy_text (P := Tryd.prog) w1 22 9 3 5 Tryd.underlying22 sizeU8 (some ⟨w.heap.size, 0, none⟩) x.size x.size x (by omega) w.heap.size 0 Z _ HG1 (fun _ => rfl) (by omega)
  have hb2 := hB2 _ _ hb1 (Nat.le_refl _)
  rw [hc2]
  clear hc2 hmk hB2 HG1 hb1
  go_wp2_with fail
  have HG4 : RowAt w2 w.heap.size 5 (Lib.byteCells x.data.toList ++ []) := by
    have e : splice Z 0 (Lib.byteCells x.data.toList) = Lib.byteCells x.data.toList ++ [] := by
      unfold splice
      rw [List.drop_eq_nil_of_le (by rw [len_cells]; omega)]
      simp
    rw [e] at HG2
    exact HG2
  rw [Lib.run_copy_empty_string (P := Tryd.prog) w2 22 9 3 5 (some ⟨w.heap.size, 0, none⟩) 0 0 ByteArray.empty Tryd.underlying22 (by rw [Option.isSome_iff_exists]; exact ⟨1, sizeU8⟩) rfl]
  go_wp2_with fail
  rw [text_of_row (P := Tryd.prog) w2 22 9 5 Tryd.underlying22 Tryd.underlying5 Tryd.underlying9 w.heap.size x.size x.size 5 _ _ HG4 (by rw [← Lib.size_eq])]
  go_wp2
  go_ret
  exact ⟨rfl, hb2⟩
theorem together_any (x y : ByteArray) (w : World) (hz : x.size + y.size ≤ 1000000) :
    Calls Tryd.prog 79 #[.string x, .string y] w fun e w' => e = .returned (.string (x ++ y)) ∧ Below w.heap.size w w' := by
  by_cases hy : y = ByteArray.empty
  · subst hy
    rw [ByteArray.append_empty]
    exact together_empty x w (by omega)
  · exact together_full x y w hz hy

end Go.Proofs.YtfoekelhcmlagaaDoor

/- The walk of the program's setCopy. -/
namespace Go.Proofs.YtfoekelhcmlagaaDoor
open Go.RowKit

set_option maxRecDepth 10000 in
set_option maxHeartbeats 4000000 in
theorem setCopy_any (x : SetL) (u : Value) (B : Nat) (w : World) (hs : SliceS w B u x.2.length (atL x.2)) (hM : 0 < x.2.length) (hn : x.2.length ≤ 1000) (hz1 : x.1.size ≤ 1000) (hz : ∀ i, i < x.2.length → (atL x.2 i).size ≤ 1000) :
    Calls Tryd.prog 184 #[.agg #[.string x.1, u]] w fun e w' => ∃ p c, e = .returned (.agg #[.string x.1, .slice p x.2.length c]) ∧ SliceS w' w.heap.size (.slice p x.2.length c) x.2.length (atL x.2) ∧ Below w.heap.size w w' := by
  obtain ⟨p, M⟩ := x
  dsimp only at hs hM hn hz1 hz ⊢
  obtain ⟨q, cap, rfl, hg⟩ := hs
  obtain ⟨g, rfl, -, hgw, hc⟩ := hg hM
  have HC : Hid (∀ j, j < M.length → w.cell? ⟨g, j, none⟩ = some (.string (atL M j))) := fun j hj => (hc j hj).1
  have HK : Hid (∀ j, j < M.length → ∀ W, Calls Tryd.prog 79 #[.string (atL M j), .string ⟨#[]⟩] W fun e w' => e = .returned (.string (atL M j)) ∧ Below W.heap.size W w') := fun j hj W => together_empty _ W (by have := hz j hj; omega)
  have KP : Hid (∀ W, Calls Tryd.prog 79 #[.string p, .string ⟨#[]⟩] W fun e w' => e = .returned (.string p) ∧ Below W.heap.size W w') := fun W => together_empty _ W (by omega)
  clear hg hc hz hz1
  obtain ⟨W0, hW⟩ : ∃ W0, W0 = ((w.alloc (.cells #[.string p, .slice (some ⟨g, 0, none⟩) M.length cap] 47)).alloc (.cells #[.string ⟨#[]⟩, .slice none 0 0] 47)) := ⟨_, rfl⟩
  have hW0 : Hid (W0 = ((w.alloc (.cells #[.string p, .slice (some ⟨g, 0, none⟩) M.length cap] 47)).alloc (.cells #[.string ⟨#[]⟩, .slice none 0 0] 47))) := hW
  have HB : Hid (Below w.heap.size w W0) := by show Below _ _ _; rw [hW]; exact ((Below.refl _ _).alloc (Nat.le_refl _) _).alloc (by simp) _
  have z1 : w.heap.size + 1 < W0.heap.size := by rw [hW]; simp
  have a0 : W0.cell? ⟨w.heap.size, 0, none⟩ = some (.string p) := by rw [hW]; simp
  have a1 : W0.cell? ⟨w.heap.size, 1, none⟩ = some (.slice (some ⟨g, 0, none⟩) M.length cap) := by rw [hW]; simp
  have r0 : W0.cell? ⟨w.heap.size + 1, 0, none⟩ = some (.string ⟨#[]⟩) := by rw [hW]; exact (World.cell?_alloc_at _ _ _ _ (by simp)).trans rfl
  have r1 : W0.cell? ⟨w.heap.size + 1, 1, none⟩ = some (.slice none 0 0) := by rw [hW]; exact (World.cell?_alloc_at _ _ _ _ (by simp)).trans rfl
  have f0 : W0.frozen? ⟨w.heap.size + 1, 0, none⟩ = false := by rw [hW]; exact World.frozen?_alloc_at _ _ _ _ (by simp)
  have f1 : W0.frozen? ⟨w.heap.size + 1, 1, none⟩ = false := by rw [hW]; exact World.frozen?_alloc_at _ _ _ _ (by simp)
  clear hW
  obtain ⟨w1, hmk, hz1, hc1, hb1⟩ := make_strs W0 M.length (by omega)
  have HC1 : Hid (∀ j, j < M.length → w1.cell? ⟨W0.heap.size, j, none⟩ = some (.string (upto (atL M) 0 j)) ∧ w1.frozen? ⟨W0.heap.size, j, none⟩ = false) := fun j hj => ⟨by rw [upto, if_neg (by omega)]; exact (hc1 j hj).1, (hc1 j hj).2⟩
  have HB1 : Hid (Below W0.heap.size W0 w1) := hb1
  have HS : Hid (∀ wr, W0.heap.size < wr.heap.size → (∀ j, j < M.length → wr.cell? ⟨W0.heap.size, j, none⟩ = some (.string (upto (atL M) M.length j)) ∧ wr.frozen? ⟨W0.heap.size, j, none⟩ = false) → SliceS wr (w.heap.size + 2) (.slice (some ⟨W0.heap.size, 0, none⟩) M.length M.length) M.length (atL M)) := fun wr hl h => ⟨_, _, rfl, fun _ => ⟨W0.heap.size, rfl, by omega, hl, fun j hj => by have := h j hj; rw [upto_all _ _ _ hj] at this; exact this⟩⟩
  have e1 : w1.cell? ⟨w.heap.size, 1, none⟩ = some (.slice (some ⟨g, 0, none⟩) M.length cap) := ((bcell hb1).1 _ _ (by omega)).trans a1
  clear hc1 hb1
  go_enter Tryd.func184, Tryd.ntmps184
  go_upto_region 1 with fail
  rw [← hW0.out]
  clear hW0
  go_wp2
  clear hmk
  go_loopw [13] (fun i wr => ∃ k : Nat, k ≤ M.length ∧ i = .int .i64 k ∧ W0.heap.size < wr.heap.size ∧ Hid (Below W0.heap.size W0 wr) ∧ Hid (∀ j, j < M.length → wr.cell? ⟨W0.heap.size, j, none⟩ = some (.string (upto (atL M) k j)) ∧ wr.frozen? ⟨W0.heap.size, j, none⟩ = false)) (fun i _ => M.length - (intOf i).toNat)
  case atStart => exact ⟨0, Nat.zero_le _, rfl, hz1, HB1, HC1⟩
  case round =>
    obtain ⟨k, hk, rfl, hzr, HBr, HCr⟩ := hrel
    by_cases hlt : k < M.length
    · have hgW : g < W0.heap.size := by omega
      have c0 : wr.cell? ⟨g, k, none⟩ = some (.string (atL M k)) := by rw [(bcell HBr.out).1 _ _ hgW, (bcell HB.out).1 _ _ hgw]; exact HC.out k hlt
      have KT := HK.out k hlt
      have KT1 : Hid (∀ W, Calls Tryd.prog 79 #[.string (atL M k), .string ⟨#[]⟩] W fun e w' => e = .returned (.string (atL M k)) ∧ Below W.heap.size W w') := KT
      have k0 : (0 : Int) ≤ k := by omega
      have k1 : (k : Int) < M.length := by omega
      have HNext : Hid (∀ w2 : World, (∀ j, j < M.length → w2.cell? ⟨W0.heap.size, j, none⟩ = some (.string (upto (atL M) k j)) ∧ w2.frozen? ⟨W0.heap.size, j, none⟩ = false) → ∀ j, j < M.length → (w2.setCell ⟨W0.heap.size, k, none⟩ (.string (atL M k))).cell? ⟨W0.heap.size, j, none⟩ = some (.string (upto (atL M) (k + 1) j)) ∧ (w2.setCell ⟨W0.heap.size, k, none⟩ (.string (atL M k))).frozen? ⟨W0.heap.size, j, none⟩ = false) := fun w2 h j hj => by
        by_cases e : j = k
        · subst e
          rw [upto_at]
          exact ⟨World.cell?_setCell_same _ _ _ (h j hj).1, by rw [World.frozen?_setCell]; exact (h j hj).2⟩
        · rw [upto_else (atL M) k j e, World.cell?_setCell_other _ _ _ _ (by intro h; injection h with _ h; exact e h.symm), World.frozen?_setCell]
          exact h j hj
      clear KT
      go_wp2_with fail
      refine (KT1.out _).mono ?_
      rintro e w2 ⟨rfl, hb2⟩
      have C2 : Hid (∀ j, j < M.length → w2.cell? ⟨W0.heap.size, j, none⟩ = some (.string (upto (atL M) k j)) ∧ w2.frozen? ⟨W0.heap.size, j, none⟩ = false) := fun j hj => ⟨by rw [(bcell hb2).1 _ _ hzr]; exact (HCr.out j hj).1, by rw [(bcell hb2).2 _ _ hzr]; exact (HCr.out j hj).2⟩
      have B2 : Hid (Below W0.heap.size W0 w2) := HBr.out.trans (hb2.mono HBr.out.size)
      have hz2 : W0.heap.size < w2.heap.size := Nat.lt_of_lt_of_le hzr hb2.size
      have C3 := HNext.out w2 C2.out
      have C4 : Hid (∀ j, j < M.length → (w2.setCell ⟨W0.heap.size, k, none⟩ (.string (atL M k))).cell? ⟨W0.heap.size, j, none⟩ = some (.string (upto (atL M) (k + 1) j)) ∧ (w2.setCell ⟨W0.heap.size, k, none⟩ (.string (atL M k))).frozen? ⟨W0.heap.size, j, none⟩ = false) := C3
      have d1 := (C2.out k hlt).1
      have d2 := (C2.out k hlt).2
      clear hb2 HNext C3 KT1 c0
      go_wp2
      go_roundw
      case rel => exact ⟨k + 1, by omega, by go_num, by simpa [World.setCell] using hz2, B2.out.setCell (Nat.le_refl _) _, C4⟩
      case measure => simp [intOf]; omega
    · obtain rfl : k = M.length := by omega
      have S1 : Hid (SliceS wr (w.heap.size + 2) (.slice (some ⟨W0.heap.size, 0, none⟩) M.length M.length) M.length (atL M)) := HS.out wr hzr HCr.out
      have b0 : wr.cell? ⟨w.heap.size, 0, none⟩ = some (.string p) := ((bcell HBr.out).1 _ _ (by omega)).trans a0
      have hz3 : w.heap.size + 1 < wr.heap.size := by omega
      clear HCr HS
      go_wp2_with fail
      refine (KP.out _).mono ?_
      rintro e w3 ⟨rfl, hb3⟩
      have S3 : Hid (SliceS w3 (w.heap.size + 2) (.slice (some ⟨W0.heap.size, 0, none⟩) M.length M.length) M.length (atL M)) := S1.out.below hb3
      have B3 : Below W0.heap.size W0 w3 := HBr.out.trans (hb3.mono HBr.out.size)
      have s0 : w3.cell? ⟨w.heap.size + 1, 0, none⟩ = some (.string ⟨#[]⟩) := ((bcell B3).1 _ _ z1).trans r0
      have s1 : w3.cell? ⟨w.heap.size + 1, 1, none⟩ = some (.slice none 0 0) := ((bcell B3).1 _ _ z1).trans r1
      have t0 : w3.frozen? ⟨w.heap.size + 1, 0, none⟩ = false := ((bcell B3).2 _ _ z1).trans f0
      have t1 : w3.frozen? ⟨w.heap.size + 1, 1, none⟩ = false := ((bcell B3).2 _ _ z1).trans f1
      have B4 : Hid (Below w.heap.size w w3) := HB.out.trans (B3.mono HB.out.size)
      clear hb3 B3 S1
      go_wp2
      exact bodyPost_ret (v := .agg #[.string p, .slice (some ⟨W0.heap.size, 0, none⟩) M.length M.length]) (by simp [results, Tryd.results184, go_sem, s0, s1]) rfl ⟨_, _, rfl, SliceS.mono ((S3.out.setOther (by omega)).setOther (by omega)) (by omega), (B4.out.setCell (Nat.le_add_right _ 1) _).setCell (Nat.le_add_right _ 1) _⟩
end Go.Proofs.YtfoekelhcmlagaaDoor

/- Where an owned row lies. -/
namespace Go.Proofs.YtfoekelhcmlagaaDoor
open Go.RowKit
theorem own_base {w : World} {B n sz : Nat} {e : TypeId} {v : Value} {xs : List Value} (h : w.ownsRow B e sz v n xs) : ∀ j, v.ownBlock = some j → B ≤ j := by
  intro j hj
  obtain ⟨_, ⟨rfl, _⟩ | ⟨g, cap, cur, rfl, hB, _⟩⟩ := h
  · cases hj
  · have : g = j := Option.some.inj hj
    omega
end Go.Proofs.YtfoekelhcmlagaaDoor

/- The book's own memory: its three cells, the row of its sets, their members. -/
namespace Go.Proofs.YtfoekelhcmlagaaDoor
open Go.RowKit Go.Maps

theorem SliceS.keepG {w w' : World} {B n : Nat} {row : Option Nat} {v : Value} {f : Nat → ByteArray} (h : SliceS w B v n f) (hg : w.grownBy w' row) (hne : 0 < n → v.ownBlock ≠ row) : SliceS w' B v n f := by
  obtain ⟨p, cap, rfl, h⟩ := h
  refine ⟨p, cap, rfl, fun hn => ?_⟩
  obtain ⟨g, rfl, hB, hgw, hc⟩ := h hn
  have hb : w'.heap[g]? = w.heap[g]? := hg.block g hgw (fun e => hne hn e)
  refine ⟨g, rfl, hB, Nat.lt_of_lt_of_le hgw hg.size, fun j hj => ⟨?_, ?_⟩⟩
  · rw [World.cell?_of_block (a := ⟨g, j, none⟩) hb]; exact (hc j hj).1
  · rw [World.frozen?_of_block (a := ⟨g, j, none⟩) hb]; exact (hc j hj).2
theorem SliceS.place {w : World} {B n : Nat} {v : Value} {f : Nat → ByteArray} (h : SliceS w B v n f) (hn : 0 < n) : ∃ g, v.ownBlock = some g ∧ B ≤ g ∧ g < w.heap.size ∧ w.cell? ⟨g, 0, none⟩ = some (.string (f 0)) := by
  obtain ⟨p, cap, rfl, h⟩ := h
  obtain ⟨g, rfl, hB, hg, hc⟩ := h hn
  exact ⟨g, rfl, hB, hg, (hc 0 hn).1⟩
theorem SliceS.setFar {w : World} {B n b o : Nat} {v x : Value} {f : Nat → ByteArray} (h : SliceS w B v n f) (hb : 0 < n → v.ownBlock ≠ some b) : SliceS (w.setCell ⟨b, o, none⟩ x) B v n f := by
  obtain ⟨p, cap, rfl, h⟩ := h
  refine ⟨p, cap, rfl, fun hn => ?_⟩
  obtain ⟨g, rfl, h1, h2, hc⟩ := h hn
  refine ⟨g, rfl, h1, by simpa [World.setCell] using h2, fun j hj => ⟨?_, ?_⟩⟩
  · rw [World.cell?_setCell_other _ _ _ _ (by intro h; injection h with h; exact hb hn (by rw [h]; rfl))]; exact (hc j hj).1
  · rw [World.frozen?_setCell]; exact (hc j hj).2
/-- the cells of sets -/
def setCs : List (SetL × Value) → List Value
  | [] => []
  | t :: T => .string t.1.1 :: t.2 :: setCs T
theorem setCs_snoc (T : List (SetL × Value)) (x : SetL) (u : Value) : setCs T ++ [.string x.1, u] = setCs (T ++ [(x, u)]) := by
  induction T with
  | nil => rfl
  | cons t T ih => simp only [setCs, List.cons_append, ih]
theorem own_far {w : World} {B n sz b o : Nat} {e : TypeId} {v x : Value} {xs : List Value} (h : w.ownsRow B e sz v n xs) (hb : v.ownBlock ≠ some b) : (w.setCell ⟨b, o, none⟩ x).ownsRow B e sz v n xs := by
  obtain ⟨hl, h0 | ⟨g, cap, cur, rfl, hB, hh, r⟩⟩ := h
  · exact ⟨hl, .inl h0⟩
  · exact ⟨hl, .inr ⟨g, cap, cur, rfl, hB, by rw [Below.heap_setCell _ _ _ _ (fun e => hb (congrArg some e))]; exact hh, r⟩⟩
theorem own_keepG {w w' : World} {B n sz : Nat} {e : TypeId} {v : Value} {xs : List Value} {row : Option Nat} (h : w.ownsRow B e sz v n xs) (hg : w.grownBy w' row) (hne : ∀ g, v.ownBlock = some g → some g ≠ row) : w'.ownsRow B e sz v n xs := by
  obtain ⟨hl, h0 | ⟨g, cap, cur, rfl, hB, hh, r⟩⟩ := h
  · exact ⟨hl, .inl h0⟩
  · have hlt : g < w.heap.size := (Array.getElem?_eq_some_iff.mp hh).1
    exact ⟨hl, .inr ⟨g, cap, cur, rfl, hB, by rw [hg.block g hlt (hne g rfl)]; exact hh, r⟩⟩
theorem own_ne_map {w : World} {B n sz bm N g : Nat} {e : TypeId} {v : Value} {xs : List Value} {pl : ByteArray → Option Nat} (h : w.ownsRow B e sz v n xs) (hm : MapIs w bm N pl) (hg : v.ownBlock = some g) : g ≠ bm := by
  rintro rfl
  obtain ⟨hl, ⟨rfl, _⟩ | ⟨g', cap, cur, rfl, hB, hh, r⟩⟩ := h
  · cases hg
  · obtain rfl : g' = g := Option.some.inj hg
    obtain ⟨D, ⟨es, clock, h0, _⟩, _⟩ := hm
    rw [hh] at h0; cases h0
theorem own_in5 {w : World} {B n sz g : Nat} {e : TypeId} {v : Value} {xs : List Value} (h : w.ownsRow B e sz v n xs) (hg : v.ownBlock = some g) : B ≤ g ∧ g < w.heap.size := by
  obtain ⟨hl, ⟨rfl, _⟩ | ⟨g', cap, cur, rfl, hB, hh, r⟩⟩ := h
  · cases hg
  · obtain rfl : g' = g := Option.some.inj hg
    exact ⟨hB, (Array.getElem?_eq_some_iff.mp hh).1⟩
/-- the book, but for its map: block b holds the rules, the sets' slice and the map bm; all lies from B0 on -/
structure BookR (w : World) (B0 b bm : Nat) (rv : Value) (T : List (SetL × Value)) (sv : Value) : Prop where
  hb : B0 ≤ b
  hbm : B0 ≤ bm
  c0 : w.cell? ⟨b, 0, none⟩ = some rv
  c1 : w.cell? ⟨b, 1, none⟩ = some sv
  c2 : w.cell? ⟨b, 2, none⟩ = some (.map (some bm))
  fz : ∀ o, w.frozen? ⟨b, o, none⟩ = false
  own : w.ownsRow B0 47 2 sv T.length (setCs T)
  nb : sv.ownBlock ≠ some b
  mem : ∀ t ∈ T, SliceS w B0 t.2 t.1.2.length (atL t.1.2) ∧ 0 < t.1.2.length ∧ t.2.ownBlock ≠ sv.ownBlock ∧ t.2.ownBlock ≠ some b
theorem BookR.keepG {w w' : World} {B0 b bm : Nat} {rv sv : Value} {T : List (SetL × Value)} {row : Option Nat} (h : BookR w B0 b bm rv T sv) (hg : w.grownBy w' row) (h1 : some b ≠ row) (h2 : ∀ g, sv.ownBlock = some g → some g ≠ row) (h3 : ∀ t ∈ T, t.2.ownBlock ≠ row) : BookR w' B0 b bm rv T sv where
  hb := h.hb
  hbm := h.hbm
  c0 := hg.cell h.c0 h1
  c1 := hg.cell h.c1 h1
  c2 := hg.cell h.c2 h1
  fz := fun o => by
    have hlt : b < w.heap.size := World.block_lt_of_cell? w _ h.c0
    rw [World.frozen?_of_block (a := ⟨b, o, none⟩) (hg.block b hlt h1)]; exact h.fz o
  own := own_keepG h.own hg h2
  nb := h.nb
  mem := fun t ht => ⟨(h.mem t ht).1.keepG hg (fun _ => h3 t ht), (h.mem t ht).2⟩
theorem BookR.below {w w' : World} {B0 b bm : Nat} {rv sv : Value} {T : List (SetL × Value)} (h : BookR w B0 b bm rv T sv) (hb : Below w.heap.size w w') : BookR w' B0 b bm rv T sv :=
  h.keepG (grown_below hb none) (by simp) (fun _ _ => by simp) (fun t ht => by
    obtain ⟨g, e, -⟩ := (h.mem t ht).1.place (h.mem t ht).2.1
    rw [e]; simp)
theorem BookR.turned {w w' : World} {B0 b bm N : Nat} {rv sv : Value} {T : List (SetL × Value)} {pl : ByteArray → Option Nat} (h : BookR w B0 b bm rv T sv) (hm : MapIs w bm N pl) (hg : w.grownBy w' (some bm)) : BookR w' B0 b bm rv T sv :=
  h.keepG hg (fun e => hm.ne h.c0 (Option.some.inj e)) (fun g e e2 => own_ne_map h.own hm e (Option.some.inj e2)) (fun t ht => by
    obtain ⟨g, e, -, -, hc⟩ := (h.mem t ht).1.place (h.mem t ht).2.1
    rw [e]
    intro e2
    exact hm.ne hc (Option.some.inj e2))
/-- one set more -/
theorem BookR.push {w w3 w4 : World} {B0 b bm gg cap : Nat} {rv sv u' : Value} {T : List (SetL × Value)} {x : SetL} (h : BookR w B0 b bm rv T sv) (hb3 : Below w.heap.size w w3) (hu : SliceS w3 w.heap.size u' x.2.length (atL x.2)) (hx : 0 < x.2.length)
    (hown : w4.ownsRow B0 47 2 (.slice (some ⟨gg, 0, none⟩) (T.length + 1) cap) (T.length + 1) (setCs T ++ [.string x.1, u'])) (hgrow : (w3.alloc (.cells #[.string x.1, u'] 47)).grownBy w4 sv.ownBlock) (hat : sv.ownBlock = some gg ∨ gg = w3.heap.size + 1) :
    BookR (w4.setCell ⟨b, 1, none⟩ (.slice (some ⟨gg, 0, none⟩) (T.length + 1) cap)) B0 b bm rv (T ++ [(x, u')]) (.slice (some ⟨gg, 0, none⟩) (T.length + 1) cap) := by
  have hA := h.below hb3
  have hW : BookR (w3.alloc (.cells #[.string x.1, u'] 47)) B0 b bm rv T sv := hA.below ((Below.refl _ _).alloc (Nat.le_refl _) _)
  have hbw : b < w.heap.size := World.block_lt_of_cell? w _ h.c0
  have hz3 : w.heap.size ≤ w3.heap.size := hb3.size
  obtain ⟨gu, eu, hu1, hu2, -⟩ := hu.place hx
  have hgg : gg ≠ b := by
    rcases hat with e | e
    · intro e2; subst e2; exact h.nb e
    · omega
  have nrow : some b ≠ sv.ownBlock := fun e => h.nb e.symm
  have k0 : w4.cell? ⟨b, 0, none⟩ = some rv := hgrow.cell hW.c0 nrow
  have k1 : w4.cell? ⟨b, 1, none⟩ = some sv := hgrow.cell hW.c1 nrow
  have k2 : w4.cell? ⟨b, 2, none⟩ = some (.map (some bm)) := hgrow.cell hW.c2 nrow
  have hub : ∀ g, sv.ownBlock = some g → g < w.heap.size := fun g e => (own_in5 h.own e).2
  refine ⟨h.hb, h.hbm, ?_, World.cell?_setCell_same _ _ _ k1, ?_, fun o => ?_, ?_, ?_, fun t ht => ?_⟩
  · rw [World.cell?_setCell_other _ _ _ _ (by intro h; injection h with _ h; cases h)]; exact k0
  · rw [World.cell?_setCell_other _ _ _ _ (by intro h; injection h with _ h; cases h)]; exact k2
  · rw [World.frozen?_setCell]
    have hlt : b < (w3.alloc (.cells #[.string x.1, u'] 47)).heap.size := World.block_lt_of_cell? _ _ hW.c0
    rw [World.frozen?_of_block (a := ⟨b, o, none⟩) (hgrow.block b hlt nrow)]; exact hW.fz o
  · rw [List.length_append, ← setCs_snoc]
    exact own_far hown (fun e => hgg (Option.some.inj e))
  · intro e; exact hgg (Option.some.inj e)
  · rw [List.mem_append] at ht
    rcases ht with ht | ht
    · obtain ⟨m1, m2, m3, m4⟩ := hW.mem t ht
      obtain ⟨g, e, -, hg2, -⟩ := (h.mem t ht).1.place m2
      refine ⟨(m1.keepG hgrow (fun _ => m3)).setFar (fun _ => m4), m2, ?_, m4⟩
      rw [e]
      intro e2
      have e3 : g = gg := Option.some.inj e2
      rcases hat with e4 | e4
      · rw [e4, e, e3] at m3; exact m3 rfl
      · omega
    · obtain rfl : t = (x, u') := by simpa using ht
      have hu3 : SliceS (w3.alloc (.cells #[.string x.1, u'] 47)) w.heap.size u' x.2.length (atL x.2) := hu.below ((Below.refl _ _).alloc (Nat.le_refl _) _)
      have n1 : u'.ownBlock ≠ sv.ownBlock := by
        rw [eu]
        intro e
        have := hub gu e.symm
        omega
      have n2 : u'.ownBlock ≠ some b := by rw [eu]; intro e; have := Option.some.inj e; omega
      refine ⟨SliceS.mono ((hu3.keepG hgrow (fun _ => n1)).setFar (fun _ => n2)) (Nat.le_trans h.hb (Nat.le_of_lt hbw)), hx, ?_, n2⟩
      rw [eu]
      intro e2
      have e3 : gu = gg := Option.some.inj e2
      rcases hat with e4 | e4
      · have := hub gg e4; omega
      · omega
theorem MapIs.far {w : World} {bm N b o : Nat} {v : Value} {pl : ByteArray → Option Nat} (h : MapIs w bm N pl) (hne : bm ≠ b) : MapIs (w.setCell ⟨b, o, none⟩ v) bm N pl := by
  obtain ⟨D, h1, h2⟩ := h
  exact ⟨D, h1.setCell hne v, h2⟩
end Go.Proofs.YtfoekelhcmlagaaDoor
