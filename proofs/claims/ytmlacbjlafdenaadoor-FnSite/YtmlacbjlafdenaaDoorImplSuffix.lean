/- The walk of the program's SuffixOf. -/
import Derived.Test.YtmlacbjlafdenaaDoorImplBegin
import Derived.Test.YtmlacbjlafdenaaDoorImplLabels
import Derived.Test.YtmlacbjlafdenaaDoorImplRules
import Derived.Test.YtmlacbjlafdenaaDoorTailBack
import Derived.Test.YtmlacbjlafdenaaDoorSpecSuffix
namespace Go.Proofs.YtmlacbjlafdenaaDoor
open Go.RowKit

theorem builderX : Builder.Extra Tryd.prog Tryd.lays156_ren where
  sizeBuilder := by kernel_rfl
  liesBuilder := by kernel_rfl
  t5 := Tryd.underlying5
  a5 := Tryd.isAgg5
  z5 := Tryd.sizeOf5
  v5 := Tryd.zeroValue5
  infoByte := by kernel_rfl
  cellsByte := by kernel_rfl
  sizeByte := by kernel_rfl
  neB5 := by decide
/-- labels from place d on, joined -/
theorem join_call (g d n c : Nat) (h : Nat → ByteArray) (w : World) (hg : g < w.heap.size) (hc : ∀ j, j < n → w.cell? ⟨g, d + j, none⟩ = some (.string (h (d + j)))) (hn : n ≤ 101) (hcap : n ≤ c) (hs : ∀ j, j < n → 0 < (h (d + j)).size ∧ (h (d + j)).size ≤ 100) :
    Calls Tryd.prog 101 #[.slice (some ⟨g, d, none⟩) n c, .string ⟨#[46]⟩] w fun e w' => e = .returned (.string (tailN h d n)) ∧ Below w.heap.size w w' := by
  have e := tail_join (f := h) (d := d) n (fun i hi => (hs i hi).1)
  have hz := tailN_size (f := h) (d := d) 100 n (fun i hi => (hs i hi).2)
  have k := Any.strings_Join Tryd.lays156 builderX g d c (partL h d n) ⟨#[46]⟩ w (fun j x hj => by obtain ⟨h1, rfl⟩ := partL_get hj; exact hc j h1) hg (by rw [partL_len]; omega) (by rw [partL_len]; exact hcap)
    (by
      have e2 : (⟨#[46]⟩ : ByteArray).data.toList = [46] := rfl
      rw [e2, ← e, ← Lib.size_eq]; omega)
  rw [partL_len] at k
  have e3 : (⟨(Lib.join ((partL h d n).map (·.data.toList)) (⟨#[46]⟩ : ByteArray).data.toList).toArray⟩ : ByteArray) = tailN h d n := by
    apply bytes_ext
    rw [e]
  rw [e3] at k
  exact k
theorem labelB_pos {t : ByteArray} (h : labelB t = true) : 0 < t.size := by
  by_cases hz : 0 < t.size
  · exact hz
  · rw [labelB_size (.inl (by omega))] at h; cases h
theorem host_labels {s : ByteArray} (h : hostB s = true) : 1 ≤ (splitB s 46).length ∧ (splitB s 46).length ≤ 101 ∧ ∀ i, i < (splitB s 46).length → 0 < (atL (splitB s 46) i).size ∧ (atL (splitB s 46) i).size ≤ 100 := by
  obtain ⟨m0, hm0⟩ := splitB_ne s 46
  have hz := hostB_pos h
  have hl := splitB_len s 46
  refine ⟨by omega, by omega, fun i hi => ?_⟩
  have e : atL (splitB s 46) i = (splitB s 46)[i] := by simp [atL, hi]
  rw [e]
  have ha : labelB (splitB s 46)[i] = true := by
    unfold hostB at h
    rw [Bool.and_eq_true, Bool.and_eq_true, List.all_eq_true] at h
    exact h.1.2 _ (List.getElem_mem hi)
  exact ⟨labelB_pos ha, Nat.le_trans (piece_le (List.getElem_mem hi)) hz.2⟩

set_option maxRecDepth 10000 in
set_option maxHeartbeats 4000000 in
theorem suffixOf_any (v : Value) (n B : Nat) (f : Nat → ByteArray) (s : ByteArray) (w : World) (hG : MaxI w) (hs : SliceS w B v n f) (l1 : n ≤ 1048576) (hf : ∀ i, i < n → (f i).size ≤ 1048576) (hz : s.size ≤ 1048576) :
    Calls Tryd.prog 80 #[v, .string s] w fun e w' => e = .returned (sufV (sufOf n f s).1 (sufOf n f s).2) ∧ Below w.heap.size w w' := by
  have HSl : Hid (SliceS w B v n f) := hs
  have HG : Hid (MaxI w) := hG
  have KR : Hid (∀ W, MaxI W → SliceS W B v n f → Calls Tryd.prog 79 #[v] W fun e w' => e = .returned (.bool (rulesB n f)) ∧ Below W.heap.size W w') := fun W a b => rulesRight_any v n B f W a b l1 hf
  have KH : Hid (∀ W, MaxI W → Calls Tryd.prog 27 #[.string s] W fun e w' => e = .returned (.bool (hostB s)) ∧ Below W.heap.size W w') := fun W a => hostRight_any s W a hz
  have HN : Hid (¬ (rulesB n f = true ∧ hostB s = true) → sufOf n f s = (⟨#[]⟩, ⟨#[]⟩)) := fun h => by rw [sufOf, if_neg h]
  have HY : Hid (rulesB n f = true → hostB s = true → sufOf n f s = (sufS n f s, sufD n f s)) := fun a b => by rw [sufOf, if_pos ⟨a, b⟩]
  have HU : Hid (∀ t : TypeId, U2 (w.alloc (.cells #[.string ⟨#[]⟩, .string ⟨#[]⟩] t)) w.heap.size) := fun t => ⟨by simp, by simp, by simp, fun o => by simp⟩
  have B0 : Hid (∀ t : TypeId, Below w.heap.size w (w.alloc (.cells #[.string ⟨#[]⟩, .string ⟨#[]⟩] t))) := fun t => (Below.refl _ _).alloc (Nat.le_refl _) _
  cases hrb : rulesB n f with
  | false =>
    have HZ : Hid (sufOf n f s = (⟨#[]⟩, ⟨#[]⟩)) := HN.out (fun a => by rw [hrb] at a; cases a.1)
    rw [hrb] at KR
    clear hrb hf hs hG HN HY
    generalize sufOf n f s = SO at *
    go_enter Tryd.func80, Tryd.ntmps80
    go_wp2_with fail
    refine (KR.out _ (HG.out.on (B0.out _)) (HSl.out.below (B0.out _))).mono ?_
    rintro e w1 ⟨rfl, hb1⟩
    obtain ⟨hz1, x0, x1, xf⟩ := (HU.out _).below hb1
    have B1' : Hid (Below w.heap.size w w1) := (B0.out _).trans (hb1.mono (by simp))
    clear hb1
    go_wp2
    exact bodyPost_ret (v := sufV ⟨#[]⟩ ⟨#[]⟩) (by simp [sufV, results, Tryd.results80, go_sem, x0, x1]) rfl ⟨by rw [HZ.out], Below.setCell (Below.setCell B1'.out (Nat.le_refl _) _) (Nat.le_refl _) _⟩
  | true =>
    cases hhb : hostB s with
    | false =>
      have HZ : Hid (sufOf n f s = (⟨#[]⟩, ⟨#[]⟩)) := HN.out (fun a => by rw [hhb] at a; cases a.2)
      rw [hrb] at KR
      rw [hhb] at KH
      clear hrb hhb hf hs hG HN HY
      generalize sufOf n f s = SO at *
      go_enter Tryd.func80, Tryd.ntmps80
      go_wp2_with fail
      refine (KR.out _ (HG.out.on (B0.out _)) (HSl.out.below (B0.out _))).mono ?_
      rintro e w1 ⟨rfl, hb1⟩
      have U1 := (HU.out _).below hb1
      have B1' : Hid (Below w.heap.size w w1) := (B0.out _).trans (hb1.mono (by simp))
      clear hb1
      go_wp2_with fail
      refine (KH.out _ (HG.out.on B1'.out)).mono ?_
      rintro e w2 ⟨rfl, hb2⟩
      obtain ⟨hz2, x0, x1, xf⟩ := U1.below hb2
      have B2' : Hid (Below w.heap.size w w2) := B1'.out.trans (hb2.mono B1'.out.size)
      clear hb2 U1
      go_wp2
      exact bodyPost_ret (v := sufV ⟨#[]⟩ ⟨#[]⟩) (by simp [sufV, results, Tryd.results80, go_sem, x0, x1]) rfl ⟨by rw [HZ.out], Below.setCell (Below.setCell B2'.out (Nat.le_refl _) _) (Nat.le_refl _) _⟩
    | true =>
      obtain ⟨hm1, hm2, hpc⟩ := host_labels hhb
      have HP : Hid (∀ i, i < (splitB s 46).length → 0 < (atL (splitB s 46) i).size ∧ (atL (splitB s 46) i).size ≤ 100) := hpc
      have eL : labelsL s = splitB s 46 := by rw [labelsL, if_pos hhb]
      have KL : Hid (∀ W, MaxI W → Calls Tryd.prog 25 #[.string s] W fun e w' => ∃ v, e = .returned v ∧ SliceS w' W.heap.size v (splitB s 46).length (atL (splitB s 46)) ∧ Below W.heap.size W w' ∧ ∃ p c, v = .slice p (splitB s 46).length c ∧ (splitB s 46).length ≤ c) := fun W a => by
        have := labelsOf_cap s W a hz
        rw [eL] at this; exact this
      have KB : Hid (∀ (v2 : Value) (B2 : Nat) (W : World), MaxI W → SliceS W B v n f → SliceS W B2 v2 (splitB s 46).length (atL (splitB s 46)) → Calls Tryd.prog 100 #[v, v2] W fun e w' => e = .returned (.int .i64 (beginN n f (splitB s 46).length (atL (splitB s 46)) : Nat)) ∧ Below W.heap.size W w') :=
        fun v2 B2 W a b c => begin_any v v2 n _ B B2 f _ W a b c l1 (by omega) hm1 hf
      obtain ⟨hbc, hble⟩ := beginN_count n f (atL (splitB s 46)) hm1
      have hcle := countN_le n f (atL (splitB s 46)) hm1
      have EC : countN n f (splitB s 46).length (atL (splitB s 46)) = sufC n f s := rfl
      have ES : Hid (sufS n f s = tailN (atL (splitB s 46)) ((splitB s 46).length - sufC n f s) (sufC n f s)) := rfl
      have ED : Hid (sufD n f s = if sufC n f s < (splitB s 46).length then tailN (atL (splitB s 46)) ((splitB s 46).length - (sufC n f s + 1)) (sufC n f s + 1) else ⟨#[]⟩) := rfl
      have HZ : Hid (sufOf n f s = (sufS n f s, sufD n f s)) := HY.out hrb hhb
      rw [EC] at hbc hcle
      rw [hrb] at KR
      rw [hhb] at KH
      clear hrb hhb hf hs hG HN HY hpc eL EC
      generalize sufOf n f s = SO at *
      generalize sufS n f s = sS at *
      generalize sufD n f s = sD at *
      generalize sufC n f s = c at *
      generalize beginN n f (splitB s 46).length (atL (splitB s 46)) = b at *
      generalize (splitB s 46).length = m at *
      generalize atL (splitB s 46) = h at *
      obtain rfl : c = m - b := by omega
      have ES1 : Hid (sS = tailN h b (m - b)) := by show _ = _; rw [ES.out, show m - (m - b) = b by omega]
      clear hbc hcle ES
      go_enter Tryd.func80, Tryd.ntmps80
      go_wp2_with fail
      refine (KR.out _ (HG.out.on (B0.out _)) (HSl.out.below (B0.out _))).mono ?_
      rintro e w1 ⟨rfl, hb1⟩
      have U1 : Hid (U2 w1 w.heap.size) := (HU.out _).below hb1
      have B1' : Hid (Below w.heap.size w w1) := (B0.out _).trans (hb1.mono (by simp))
      clear hb1
      go_wp2_with fail
      refine (KH.out _ (HG.out.on B1'.out)).mono ?_
      rintro e w2 ⟨rfl, hb2⟩
      have U2' : Hid (U2 w2 w.heap.size) := U1.out.below hb2
      have B2' : Hid (Below w.heap.size w w2) := B1'.out.trans (hb2.mono B1'.out.size)
      clear hb2 U1
      go_wp2_with fail
      refine (KL.out _ (HG.out.on B2'.out)).mono ?_
      rintro e w3 ⟨vL, rfl, hsl, hb3, pL, cL, rfl, hcL⟩
      have U3' : Hid (U2 w3 w.heap.size) := U2'.out.below hb3
      have B3' : Hid (Below w.heap.size w w3) := B2'.out.trans (hb3.mono B2'.out.size)
      have SL : Hid (SliceS w3 w2.heap.size (.slice pL m cL) m h) := hsl
      clear hb3 hsl U2'
      go_wp2_with fail
      refine (KB.out _ _ _ (HG.out.on B3'.out) (HSl.out.below B3'.out) SL.out).mono ?_
      rintro e w4 ⟨rfl, hb4⟩
      have U4' : Hid (U2 w4 w.heap.size) := U3'.out.below hb4
      have B4' : Hid (Below w.heap.size w w4) := B3'.out.trans (hb4.mono B3'.out.size)
      have SL4 := SL.out.below hb4
      clear hb4 U3' SL KL KB KR KH
      obtain ⟨p', c', e', hg'⟩ := SL4
      obtain ⟨g, rfl, hgB, hgw, hgc⟩ := hg' (by omega)
      obtain ⟨rfl, rfl⟩ : pL = some ⟨g, 0, none⟩ ∧ cL = c' := by injection e' with a b c; exact ⟨a, c⟩
      have HC : Hid (∀ j, j < m → w4.cell? ⟨g, j, none⟩ = some (.string (h j)) ∧ w4.frozen? ⟨g, j, none⟩ = false) := hgc
      clear e' hg' hgc hgB
      have KJ : Hid (∀ (d : Nat) (W : World), d ≤ m → Below w4.heap.size w4 W → Calls Tryd.prog 101 #[.slice (some ⟨g, d, none⟩) (m - d) (cL - d), .string ⟨#[46]⟩] W fun e w' => e = .returned (.string (tailN h d (m - d))) ∧ Below W.heap.size W w') :=
        fun d W hd hb => join_call g d (m - d) (cL - d) h W (Nat.lt_of_lt_of_le hgw hb.size) (fun j hj => by rw [(bcell hb).1 _ _ hgw]; exact (HC.out (d + j) (by omega)).1) (by omega) (by omega) (fun j hj => HP.out (d + j) (by omega))
      have KX : Hid (cL = b → Calls Tryd.prog 101 #[.slice (some ⟨g, 0, none⟩) (m - b) 0, .string ⟨#[46]⟩] w4 fun e w' => e = .returned (.string (tailN h b (m - b))) ∧ Below w4.heap.size w4 w') := fun e => by
        rw [show m - b = 0 by omega]
        exact (Any.strings_Join_none Tryd.lays156 builderX _ _ _ w4).mono fun _ _ ⟨h1, h2⟩ => ⟨h1, h2 ▸ Below.refl _ _⟩
      have b0 : (0 : Int) ≤ b := by omega
      have b1 : (b : Int) ≤ (m : Int) := by omega
      have b2 : (m : Int) ≤ (cL : Int) := by omega
      rw [← ES1.out] at KX
      have KJb : Hid (∀ W : World, Below w4.heap.size w4 W → Calls Tryd.prog 101 #[.slice (some ⟨g, b, none⟩) (m - b) (cL - b), .string ⟨#[46]⟩] W fun e w' => e = .returned (.string sS) ∧ Below W.heap.size W w') := fun W a => by
        have := KJ.out b W hble a
        rw [← ES1.out] at this; exact this
      have KD : Hid (0 < b → ∀ W : World, Below w4.heap.size w4 W → Calls Tryd.prog 101 #[.slice (some ⟨g, b - 1, none⟩) (m - (b - 1)) (cL - (b - 1)), .string ⟨#[46]⟩] W fun e w' => e = .returned (.string sD) ∧ Below W.heap.size W w') := fun hb W a => by
        have := KJ.out (b - 1) W (by omega) a
        rw [ED.out, if_pos (by omega), show m - (m - b + 1) = b - 1 by omega, show m - b + 1 = m - (b - 1) by omega]; exact this
      have KE : Hid (b = 0 → sD = ⟨#[]⟩) := fun hb => by rw [ED.out, if_neg (by omega)]
      clear KJ ES1 ED HP HC
      by_cases hb : b = 0
      · subst hb
        have hcb : ¬ cL = 0 := by omega
        have KJ0 : Hid (Calls Tryd.prog 101 #[.slice (some ⟨g, 0, none⟩) m cL, .string ⟨#[46]⟩] w4 fun e w' => e = .returned (.string sS) ∧ Below w4.heap.size w4 w') := KJb.out w4 (Below.refl _ _)
        have HD : Hid (sD = ⟨#[]⟩) := KE.out rfl
        go_wp2_with fail
        refine KJ0.out.mono ?_
        rintro e w5 ⟨rfl, hb5⟩
        obtain ⟨hz5, x0, x1, xf⟩ := U4'.out.below hb5
        have B5' : Hid (Below w.heap.size w w5) := B4'.out.trans (hb5.mono B4'.out.size)
        clear hb5
        go_wp2
        have y0 : (((w5.setCell ⟨w.heap.size, 0, none⟩ (.string sS)).setCell ⟨w.heap.size, 1, none⟩ (.string ⟨#[]⟩)).alloc (.cells #[.string sS, .string ⟨#[]⟩] 62)).cell? ⟨w.heap.size, 0, none⟩ = some (.string sS) := by
          rw [World.cell?_alloc_lt _ _ _ (by simpa [World.setCell] using hz5), World.cell?_setCell_other _ _ _ _ (by simp)]
          exact World.cell?_setCell_same _ _ _ x0
        have y1 : (((w5.setCell ⟨w.heap.size, 0, none⟩ (.string sS)).setCell ⟨w.heap.size, 1, none⟩ (.string ⟨#[]⟩)).alloc (.cells #[.string sS, .string ⟨#[]⟩] 62)).cell? ⟨w.heap.size, 1, none⟩ = some (.string ⟨#[]⟩) := by
          rw [World.cell?_alloc_lt _ _ _ (by simpa [World.setCell] using hz5)]
          exact World.cell?_setCell_same _ _ _ ((World.cell?_setCell_other _ _ _ _ (by simp)).trans x1)
        have yb : Below w.heap.size w (((w5.setCell ⟨w.heap.size, 0, none⟩ (.string sS)).setCell ⟨w.heap.size, 1, none⟩ (.string ⟨#[]⟩)).alloc (.cells #[.string sS, .string ⟨#[]⟩] 62)) := ((B5'.out.setCell (Nat.le_refl _) _).setCell (Nat.le_refl _) _).alloc (by simp [World.setCell]; omega) _
        generalize ((w5.setCell ⟨w.heap.size, 0, none⟩ (.string sS)).setCell ⟨w.heap.size, 1, none⟩ (.string ⟨#[]⟩)).alloc (.cells #[.string sS, .string ⟨#[]⟩] 62) = W at *
        exact bodyPost_ret (v := sufV sS ⟨#[]⟩) (by simp [sufV, results, Tryd.results80, go_sem, y0, y1]) rfl ⟨by rw [HZ.out, HD.out], yb⟩
      obtain ⟨d, rfl⟩ : ∃ d, b = d + 1 := ⟨b - 1, by omega⟩
      have KD2 : Hid (∀ W : World, Below w4.heap.size w4 W → Calls Tryd.prog 101 #[.slice (some ⟨g, d, none⟩) (m - d) (cL - d), .string ⟨#[46]⟩] W fun e w' => e = .returned (.string sD) ∧ Below W.heap.size W w') := KD.out (by omega)
      have q : decide ((0 : Int) < (d : Int) + 1) = true := by rw [decide_eq_true_iff]; omega
      have hcd : ¬ cL = d := by omega
      have hd0 : (0 : Int) ≤ (d : Int) := by omega
      have hd1 : (d : Int) ≤ (m : Int) := by omega
      have KD3 : Hid (cL = d + 1 → ∀ W : World, Below w4.heap.size w4 W → Calls Tryd.prog 101 #[.slice (some ⟨g, d, none⟩) (m - d) 1, .string ⟨#[46]⟩] W fun e w' => e = .returned (.string sD) ∧ Below W.heap.size W w') := fun e W a => by
        have := KD2.out W a
        rw [show cL - d = 1 by omega] at this; exact this
      clear KD KE hb
      by_cases hcb : cL = d + 1
      all_goals
        go_wp2_with fail
        first | refine (KX.out hcb).mono ?_ | refine (KJb.out w4 (Below.refl _ _)).mono ?_
        rintro e w5 ⟨rfl, hb5⟩
        have U5' : Hid (U2 w5 w.heap.size) := U4'.out.below hb5
        have B5' : Hid (Below w.heap.size w w5) := B4'.out.trans (hb5.mono B4'.out.size)
        have B45 : Hid (Below w4.heap.size w4 w5) := hb5
        have HA6 : Hid (Below w5.heap.size w5 (w5.alloc (.cells #[.string sS, .string ⟨#[]⟩] 62))) := (Below.refl _ _).alloc (Nat.le_refl _) _
        clear hb5
        go_wp2_with fail
        first | refine (KD3.out hcb _ (B45.out.trans (HA6.out.mono B45.out.size))).mono ?_ | refine (KD2.out _ (B45.out.trans (HA6.out.mono B45.out.size))).mono ?_
        rintro e w6 ⟨rfl, hb6⟩
        have U6 := (U5'.out.below HA6.out).below hb6
        have z0 : w6.cell? ⟨w5.heap.size, 0, none⟩ = some (.string sS) := by rw [(bcell hb6).1 _ _ (by simp)]; simp
        have z1 : w6.cell? ⟨w5.heap.size, 1, none⟩ = some (.string ⟨#[]⟩) := by rw [(bcell hb6).1 _ _ (by simp)]; simp
        have zf : ∀ o, w6.frozen? ⟨w5.heap.size, o, none⟩ = false := fun o => by rw [(bcell hb6).2 _ _ (by simp)]; simp
        have hz6 : w5.heap.size < w6.heap.size := by have := hb6.size; simp at this; omega
        have hne : ¬ w5.heap.size = w.heap.size := by have := U5'.out.1; omega
        have B6' : Hid (Below w.heap.size w w6) := (B5'.out.trans (HA6.out.mono B5'.out.size)).trans (hb6.mono (by have := B5'.out.size; simp; omega))
        obtain ⟨hzw, x0, x1, xf⟩ := U6
        clear hb6
        go_wp2
        have y0 : (((w6.setCell ⟨w5.heap.size, 1, none⟩ (.string sD)).setCell ⟨w.heap.size, 0, none⟩ (.string sS)).setCell ⟨w.heap.size, 1, none⟩ (.string sD)).cell? ⟨w.heap.size, 0, none⟩ = some (.string sS) := by
          rw [World.cell?_setCell_other _ _ _ _ (by simp)]
          exact World.cell?_setCell_same _ _ _ ((World.cell?_setCell_other _ _ _ _ (by simp)).trans x0)
        have y1 : (((w6.setCell ⟨w5.heap.size, 1, none⟩ (.string sD)).setCell ⟨w.heap.size, 0, none⟩ (.string sS)).setCell ⟨w.heap.size, 1, none⟩ (.string sD)).cell? ⟨w.heap.size, 1, none⟩ = some (.string sD) :=
          World.cell?_setCell_same _ _ _ ((World.cell?_setCell_other _ _ _ _ (by simp)).trans ((World.cell?_setCell_other _ _ _ _ (by simp)).trans x1))
        have yb : Below w.heap.size w (((w6.setCell ⟨w5.heap.size, 1, none⟩ (.string sD)).setCell ⟨w.heap.size, 0, none⟩ (.string sS)).setCell ⟨w.heap.size, 1, none⟩ (.string sD)) := ((B6'.out.setCell (by have := U5'.out.1; simp; omega) _).setCell (Nat.le_refl _) _).setCell (Nat.le_refl _) _
        generalize ((w6.setCell ⟨w5.heap.size, 1, none⟩ (.string sD)).setCell ⟨w.heap.size, 0, none⟩ (.string sS)).setCell ⟨w.heap.size, 1, none⟩ (.string sD) = W at *
        exact bodyPost_ret (v := sufV sS sD) (by simp [sufV, results, Tryd.results80, go_sem, y0, y1]) rfl ⟨by rw [HZ.out], yb⟩
end Go.Proofs.YtmlacbjlafdenaaDoor
