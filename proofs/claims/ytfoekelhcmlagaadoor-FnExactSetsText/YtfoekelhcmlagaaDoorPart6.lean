/- 12 of this claim's texts, one behind the other. -/
import Derived.Test.YtfoekelhcmlagaaDoorPart5
import Derived.Test.YtfoekelhcmlagaaDoorPart2
import Derived.Deep.AppendLies
import Derived.Deep.RegionHeld3
import Derived.Deep.DeepCutAuto
import Derived.Below
import Derived.Lib.SlicesCompact
import Derived.Test.YtfoekelhcmlagaaDoorPart3
import Derived.Test.YtfoekelhcmlagaaDoorPart4
import Derived.Handed
import Derived.Lay
import Derived.MakeChecks
import Derived.Lib.LaidTab
import Derived.Stop.LaidErr
import Derived.Laws.IdiomArrays
import Derived.LaidLaws
import Derived.WalkSmall
import Derived.Carry
import Derived.ChangeVars
import Derived.OpenShut
/- The walk of the program's SuffixOf. -/
namespace Go.Proofs.YtfoekelhcmlagaaDoor
open Go.RowKit

/-- labels from place d on, joined -/
theorem join_call (g d n c : Nat) (h : Nat → ByteArray) (w : World) (hg : g < w.heap.size) (hc : ∀ j, j < n → w.cell? ⟨g, d + j, none⟩ = some (.string (h (d + j)))) (hn : n ≤ 101) (hcap : n ≤ c) (hs : ∀ j, j < n → 0 < (h (d + j)).size ∧ (h (d + j)).size ≤ 100) :
    Calls Tryd.prog 73 #[.slice (some ⟨g, d, none⟩) n c, .string ⟨#[46]⟩] w fun e w' => e = .returned (.string (tailN h d n)) ∧ Below w.heap.size w w' := by
  have e := tail_join (f := h) (d := d) n (fun i hi => (hs i hi).1)
  have hz := tailN_size (f := h) (d := d) 100 n (fun i hi => (hs i hi).2)
  have k := Any.strings_Join Tryd.lays156 builderX g d c (partL h d n) ⟨#[46]⟩ w (fun j x hj => by obtain ⟨h1, rfl⟩ := partL_get hj; exact hc j h1) hg (by rw [partL_len]; omega) (by rw [partL_len]; exact hcap)
    (by
      have e2 : (⟨#[46]⟩ : ByteArray).data.toList = [46] := rfl
      rw [e2, ← e, ← Lib.size_eq]; omega)
  rw [partL_len] at k
  have e3 : (⟨(Lib.join ((partL h d n).map (·.data.toList)) (⟨#[46]⟩ : ByteArray).data.toList).toArray⟩ : ByteArray) = tailN h d n := by
    apply bytes_ext
    rw [e]
  rw [e3] at k
  exact k
theorem labelB_pos {t : ByteArray} (h : labelB t = true) : 0 < t.size := by
  by_cases hz : 0 < t.size
  · exact hz
  · rw [labelB_size (.inl (by omega))] at h; cases h
theorem host_labels {s : ByteArray} (h : hostB s = true) : 1 ≤ (splitB s 46).length ∧ (splitB s 46).length ≤ 101 ∧ ∀ i, i < (splitB s 46).length → 0 < (atL (splitB s 46) i).size ∧ (atL (splitB s 46) i).size ≤ 100 := by
  obtain ⟨m0, hm0⟩ := splitB_ne s 46
  have hz := hostB_pos h
  have hl := splitB_len s 46
  refine ⟨by omega, by omega, fun i hi => ?_⟩
  have e : atL (splitB s 46) i = (splitB s 46)[i] := by simp [atL, hi]
  rw [e]
  have ha : labelB (splitB s 46)[i] = true := by
    unfold hostB at h
    rw [Bool.and_eq_true, Bool.and_eq_true, List.all_eq_true] at h
    exact h.1.2 _ (List.getElem_mem hi)
  exact ⟨labelB_pos ha, Nat.le_trans (piece_le (List.getElem_mem hi)) hz.2⟩

set_option maxRecDepth 10000 in
set_option maxHeartbeats 4000000 in
theorem suffixOf_any (v : Value) (n B : Nat) (f : Nat → ByteArray) (s : ByteArray) (w : World) (hG : MaxI w) (hs : SliceS w B v n f) (l1 : n ≤ 1048576) (hf : ∀ i, i < n → (f i).size ≤ 1048576) (hz : s.size ≤ 1048576) :
    Calls Tryd.prog 14 #[v, .string s] w fun e w' => e = .returned (sufV (sufOf n f s).1 (sufOf n f s).2) ∧ Below w.heap.size w w' := by
  have HSl : Hid (SliceS w B v n f) := hs
  have HG : Hid (MaxI w) := hG
  have KR : Hid (∀ W, MaxI W → SliceS W B v n f → Calls Tryd.prog 23 #[v] W fun e w' => e = .returned (.bool (rulesB n f)) ∧ Below W.heap.size W w') := fun W a b => rulesRight_any v n B f W a b l1 hf
  have KH : Hid (∀ W, MaxI W → Calls Tryd.prog 71 #[.string s] W fun e w' => e = .returned (.bool (hostB s)) ∧ Below W.heap.size W w') := fun W a => hostRight_any s W a hz
  have HN : Hid (¬ (rulesB n f = true ∧ hostB s = true) → sufOf n f s = (⟨#[]⟩, ⟨#[]⟩)) := fun h => by rw [sufOf, if_neg h]
  have HY : Hid (rulesB n f = true → hostB s = true → sufOf n f s = (sufS n f s, sufD n f s)) := fun a b => by rw [sufOf, if_pos ⟨a, b⟩]
  have HU : Hid (∀ t : TypeId, U2 (w.alloc (.cells #[.string ⟨#[]⟩, .string ⟨#[]⟩] t)) w.heap.size) := fun t => ⟨by simp, by simp, by simp, fun o => by simp⟩
  have B0 : Hid (∀ t : TypeId, Below w.heap.size w (w.alloc (.cells #[.string ⟨#[]⟩, .string ⟨#[]⟩] t))) := fun t => (Below.refl _ _).alloc (Nat.le_refl _) _
  cases hrb : rulesB n f with
  | false =>
    have HZ : Hid (sufOf n f s = (⟨#[]⟩, ⟨#[]⟩)) := HN.out (fun a => by rw [hrb] at a; cases a.1)
    rw [hrb] at KR
    clear hrb hf hs hG HN HY
    generalize sufOf n f s = SO at *
    go_enter Tryd.func14, Tryd.ntmps14
    go_wp2_with fail
    refine (KR.out _ (HG.out.on (B0.out _)) (HSl.out.below (B0.out _))).mono ?_
    rintro e w1 ⟨rfl, hb1⟩
    obtain ⟨hz1, x0, x1, xf⟩ := (HU.out _).below hb1
    have B1' : Hid (Below w.heap.size w w1) := (B0.out _).trans (hb1.mono (by simp))
    clear hb1
    go_wp2
    exact bodyPost_ret (v := sufV ⟨#[]⟩ ⟨#[]⟩) (by simp [sufV, results, Tryd.results14, go_sem, x0, x1]) rfl ⟨by rw [HZ.out], Below.setCell (Below.setCell B1'.out (Nat.le_refl _) _) (Nat.le_refl _) _⟩
  | true =>
    cases hhb : hostB s with
    | false =>
      have HZ : Hid (sufOf n f s = (⟨#[]⟩, ⟨#[]⟩)) := HN.out (fun a => by rw [hhb] at a; cases a.2)
      rw [hrb] at KR
      rw [hhb] at KH
      clear hrb hhb hf hs hG HN HY
      generalize sufOf n f s = SO at *
      go_enter Tryd.func14, Tryd.ntmps14
      go_wp2_with fail
      refine (KR.out _ (HG.out.on (B0.out _)) (HSl.out.below (B0.out _))).mono ?_
      rintro e w1 ⟨rfl, hb1⟩
      have U1 := (HU.out _).below hb1
      have B1' : Hid (Below w.heap.size w w1) := (B0.out _).trans (hb1.mono (by simp))
      clear hb1
      go_wp2_with fail
      refine (KH.out _ (HG.out.on B1'.out)).mono ?_
      rintro e w2 ⟨rfl, hb2⟩
      obtain ⟨hz2, x0, x1, xf⟩ := U1.below hb2
      have B2' : Hid (Below w.heap.size w w2) := B1'.out.trans (hb2.mono B1'.out.size)
      clear hb2 U1
      go_wp2
      exact bodyPost_ret (v := sufV ⟨#[]⟩ ⟨#[]⟩) (by simp [sufV, results, Tryd.results14, go_sem, x0, x1]) rfl ⟨by rw [HZ.out], Below.setCell (Below.setCell B2'.out (Nat.le_refl _) _) (Nat.le_refl _) _⟩
    | true =>
      obtain ⟨hm1, hm2, hpc⟩ := host_labels hhb
      have HP : Hid (∀ i, i < (splitB s 46).length → 0 < (atL (splitB s 46) i).size ∧ (atL (splitB s 46) i).size ≤ 100) := hpc
      have eL : labelsL s = splitB s 46 := by rw [labelsL, if_pos hhb]
      have KL : Hid (∀ W, MaxI W → Calls Tryd.prog 26 #[.string s] W fun e w' => ∃ v, e = .returned v ∧ SliceS w' W.heap.size v (splitB s 46).length (atL (splitB s 46)) ∧ Below W.heap.size W w' ∧ ∃ p c, v = .slice p (splitB s 46).length c ∧ (splitB s 46).length ≤ c) := fun W a => by
        have := labelsOf_cap s W a hz
        rw [eL] at this; exact this
      have KB : Hid (∀ (v2 : Value) (B2 : Nat) (W : World), MaxI W → SliceS W B v n f → SliceS W B2 v2 (splitB s 46).length (atL (splitB s 46)) → Calls Tryd.prog 72 #[v, v2] W fun e w' => e = .returned (.int .i64 (beginN n f (splitB s 46).length (atL (splitB s 46)) : Nat)) ∧ Below W.heap.size W w') :=
        fun v2 B2 W a b c => begin_any v v2 n _ B B2 f _ W a b c l1 (by omega) hm1 hf
      obtain ⟨hbc, hble⟩ := beginN_count n f (atL (splitB s 46)) hm1
      have hcle := countN_le n f (atL (splitB s 46)) hm1
      have EC : countN n f (splitB s 46).length (atL (splitB s 46)) = sufC n f s := rfl
      have ES : Hid (sufS n f s = tailN (atL (splitB s 46)) ((splitB s 46).length - sufC n f s) (sufC n f s)) := rfl
      have ED : Hid (sufD n f s = if sufC n f s < (splitB s 46).length then tailN (atL (splitB s 46)) ((splitB s 46).length - (sufC n f s + 1)) (sufC n f s + 1) else ⟨#[]⟩) := rfl
      have HZ : Hid (sufOf n f s = (sufS n f s, sufD n f s)) := HY.out hrb hhb
      rw [EC] at hbc hcle
      rw [hrb] at KR
      rw [hhb] at KH
      clear hrb hhb hf hs hG HN HY hpc eL EC
      generalize sufOf n f s = SO at *
      generalize sufS n f s = sS at *
      generalize sufD n f s = sD at *
      generalize sufC n f s = c at *
      generalize beginN n f (splitB s 46).length (atL (splitB s 46)) = b at *
      generalize (splitB s 46).length = m at *
      generalize atL (splitB s 46) = h at *
      obtain rfl : c = m - b := by omega
      have ES1 : Hid (sS = tailN h b (m - b)) := by show _ = _; rw [ES.out, show m - (m - b) = b by omega]
      clear hbc hcle ES
      go_enter Tryd.func14, Tryd.ntmps14
      go_wp2_with fail
      refine (KR.out _ (HG.out.on (B0.out _)) (HSl.out.below (B0.out _))).mono ?_
      rintro e w1 ⟨rfl, hb1⟩
      have U1 : Hid (U2 w1 w.heap.size) := (HU.out _).below hb1
      have B1' : Hid (Below w.heap.size w w1) := (B0.out _).trans (hb1.mono (by simp))
      clear hb1
      go_wp2_with fail
      refine (KH.out _ (HG.out.on B1'.out)).mono ?_
      rintro e w2 ⟨rfl, hb2⟩
      have U2' : Hid (U2 w2 w.heap.size) := U1.out.below hb2
      have B2' : Hid (Below w.heap.size w w2) := B1'.out.trans (hb2.mono B1'.out.size)
      clear hb2 U1
      go_wp2_with fail
      refine (KL.out _ (HG.out.on B2'.out)).mono ?_
      rintro e w3 ⟨vL, rfl, hsl, hb3, pL, cL, rfl, hcL⟩
      have U3' : Hid (U2 w3 w.heap.size) := U2'.out.below hb3
      have B3' : Hid (Below w.heap.size w w3) := B2'.out.trans (hb3.mono B2'.out.size)
      have SL : Hid (SliceS w3 w2.heap.size (.slice pL m cL) m h) := hsl
      clear hb3 hsl U2'
      go_wp2_with fail
      refine (KB.out _ _ _ (HG.out.on B3'.out) (HSl.out.below B3'.out) SL.out).mono ?_
      rintro e w4 ⟨rfl, hb4⟩
      have U4' : Hid (U2 w4 w.heap.size) := U3'.out.below hb4
      have B4' : Hid (Below w.heap.size w w4) := B3'.out.trans (hb4.mono B3'.out.size)
      have SL4 := SL.out.below hb4
      clear hb4 U3' SL KL KB KR KH
      obtain ⟨p', c', e', hg'⟩ := SL4
      obtain ⟨g, rfl, hgB, hgw, hgc⟩ := hg' (by omega)
      obtain ⟨rfl, rfl⟩ : pL = some ⟨g, 0, none⟩ ∧ cL = c' := by injection e' with a b c; exact ⟨a, c⟩
      have HC : Hid (∀ j, j < m → w4.cell? ⟨g, j, none⟩ = some (.string (h j)) ∧ w4.frozen? ⟨g, j, none⟩ = false) := hgc
      clear e' hg' hgc hgB
      have KJ : Hid (∀ (d : Nat) (W : World), d ≤ m → Below w4.heap.size w4 W → Calls Tryd.prog 73 #[.slice (some ⟨g, d, none⟩) (m - d) (cL - d), .string ⟨#[46]⟩] W fun e w' => e = .returned (.string (tailN h d (m - d))) ∧ Below W.heap.size W w') :=
        fun d W hd hb => join_call g d (m - d) (cL - d) h W (Nat.lt_of_lt_of_le hgw hb.size) (fun j hj => by rw [(bcell hb).1 _ _ hgw]; exact (HC.out (d + j) (by omega)).1) (by omega) (by omega) (fun j hj => HP.out (d + j) (by omega))
      have KX : Hid (cL = b → Calls Tryd.prog 73 #[.slice (some ⟨g, 0, none⟩) (m - b) 0, .string ⟨#[46]⟩] w4 fun e w' => e = .returned (.string (tailN h b (m - b))) ∧ Below w4.heap.size w4 w') := fun e => by
        rw [show m - b = 0 by omega]
        exact (Any.strings_Join_none Tryd.lays156 builderX _ _ _ w4).mono fun _ _ ⟨h1, h2⟩ => ⟨h1, h2 ▸ Below.refl _ _⟩
      have b0 : (0 : Int) ≤ b := by omega
      have b1 : (b : Int) ≤ (m : Int) := by omega
      have b2 : (m : Int) ≤ (cL : Int) := by omega
      rw [← ES1.out] at KX
      have KJb : Hid (∀ W : World, Below w4.heap.size w4 W → Calls Tryd.prog 73 #[.slice (some ⟨g, b, none⟩) (m - b) (cL - b), .string ⟨#[46]⟩] W fun e w' => e = .returned (.string sS) ∧ Below W.heap.size W w') := fun W a => by
        have := KJ.out b W hble a
        rw [← ES1.out] at this; exact this
      have KD : Hid (0 < b → ∀ W : World, Below w4.heap.size w4 W → Calls Tryd.prog 73 #[.slice (some ⟨g, b - 1, none⟩) (m - (b - 1)) (cL - (b - 1)), .string ⟨#[46]⟩] W fun e w' => e = .returned (.string sD) ∧ Below W.heap.size W w') := fun hb W a => by
        have := KJ.out (b - 1) W (by omega) a
        rw [ED.out, if_pos (by omega), show m - (m - b + 1) = b - 1 by omega, show m - b + 1 = m - (b - 1) by omega]; exact this
      have KE : Hid (b = 0 → sD = ⟨#[]⟩) := fun hb => by rw [ED.out, if_neg (by omega)]
      clear KJ ES1 ED HP HC
      by_cases hb : b = 0
      · subst hb
        have hcb : ¬ cL = 0 := by omega
        have KJ0 : Hid (Calls Tryd.prog 73 #[.slice (some ⟨g, 0, none⟩) m cL, .string ⟨#[46]⟩] w4 fun e w' => e = .returned (.string sS) ∧ Below w4.heap.size w4 w') := KJb.out w4 (Below.refl _ _)
        have HD : Hid (sD = ⟨#[]⟩) := KE.out rfl
        go_wp2_with fail
        refine KJ0.out.mono ?_
        rintro e w5 ⟨rfl, hb5⟩
        obtain ⟨hz5, x0, x1, xf⟩ := U4'.out.below hb5
        have B5' : Hid (Below w.heap.size w w5) := B4'.out.trans (hb5.mono B4'.out.size)
        clear hb5
        go_wp2
        have y0 : (((w5.setCell ⟨w.heap.size, 0, none⟩ (.string sS)).setCell ⟨w.heap.size, 1, none⟩ (.string ⟨#[]⟩)).alloc (.cells #[.string sS, .string ⟨#[]⟩] 27)).cell? ⟨w.heap.size, 0, none⟩ = some (.string sS) := by
          rw [World.cell?_alloc_lt _ _ _ (by simpa [World.setCell] using hz5), World.cell?_setCell_other _ _ _ _ (by simp)]
          exact World.cell?_setCell_same _ _ _ x0
        have y1 : (((w5.setCell ⟨w.heap.size, 0, none⟩ (.string sS)).setCell ⟨w.heap.size, 1, none⟩ (.string ⟨#[]⟩)).alloc (.cells #[.string sS, .string ⟨#[]⟩] 27)).cell? ⟨w.heap.size, 1, none⟩ = some (.string ⟨#[]⟩) := by
          rw [World.cell?_alloc_lt _ _ _ (by simpa [World.setCell] using hz5)]
          exact World.cell?_setCell_same _ _ _ ((World.cell?_setCell_other _ _ _ _ (by simp)).trans x1)
        have yb : Below w.heap.size w (((w5.setCell ⟨w.heap.size, 0, none⟩ (.string sS)).setCell ⟨w.heap.size, 1, none⟩ (.string ⟨#[]⟩)).alloc (.cells #[.string sS, .string ⟨#[]⟩] 27)) := ((B5'.out.setCell (Nat.le_refl _) _).setCell (Nat.le_refl _) _).alloc (by simp [World.setCell]; omega) _
        generalize ((w5.setCell ⟨w.heap.size, 0, none⟩ (.string sS)).setCell ⟨w.heap.size, 1, none⟩ (.string ⟨#[]⟩)).alloc (.cells #[.string sS, .string ⟨#[]⟩] 27) = W at *
        exact bodyPost_ret (v := sufV sS ⟨#[]⟩) (by simp [sufV, results, Tryd.results14, go_sem, y0, y1]) rfl ⟨by rw [HZ.out, HD.out], yb⟩
      obtain ⟨d, rfl⟩ : ∃ d, b = d + 1 := ⟨b - 1, by omega⟩
      have KD2 : Hid (∀ W : World, Below w4.heap.size w4 W → Calls Tryd.prog 73 #[.slice (some ⟨g, d, none⟩) (m - d) (cL - d), .string ⟨#[46]⟩] W fun e w' => e = .returned (.string sD) ∧ Below W.heap.size W w') := KD.out (by omega)
      have q : decide ((0 : Int) < (d : Int) + 1) = true := by rw [decide_eq_true_iff]; omega
      have hcd : ¬ cL = d := by omega
      have hd0 : (0 : Int) ≤ (d : Int) := by omega
      have hd1 : (d : Int) ≤ (m : Int) := by omega
      have KD3 : Hid (cL = d + 1 → ∀ W : World, Below w4.heap.size w4 W → Calls Tryd.prog 73 #[.slice (some ⟨g, d, none⟩) (m - d) 1, .string ⟨#[46]⟩] W fun e w' => e = .returned (.string sD) ∧ Below W.heap.size W w') := fun e W a => by
        have := KD2.out W a
        rw [show cL - d = 1 by omega] at this; exact this
      clear KD KE hb
      by_cases hcb : cL = d + 1
      all_goals
        go_wp2_with fail
        first | refine (KX.out hcb).mono ?_ | refine (KJb.out w4 (Below.refl _ _)).mono ?_
        rintro e w5 ⟨rfl, hb5⟩
        have U5' : Hid (U2 w5 w.heap.size) := U4'.out.below hb5
        have B5' : Hid (Below w.heap.size w w5) := B4'.out.trans (hb5.mono B4'.out.size)
        have B45 : Hid (Below w4.heap.size w4 w5) := hb5
        have HA6 : Hid (Below w5.heap.size w5 (w5.alloc (.cells #[.string sS, .string ⟨#[]⟩] 27))) := (Below.refl _ _).alloc (Nat.le_refl _) _
        clear hb5
        go_wp2_with fail
        first | refine (KD3.out hcb _ (B45.out.trans (HA6.out.mono B45.out.size))).mono ?_ | refine (KD2.out _ (B45.out.trans (HA6.out.mono B45.out.size))).mono ?_
        rintro e w6 ⟨rfl, hb6⟩
        have U6 := (U5'.out.below HA6.out).below hb6
        have z0 : w6.cell? ⟨w5.heap.size, 0, none⟩ = some (.string sS) := by rw [(bcell hb6).1 _ _ (by simp)]; simp
        have z1 : w6.cell? ⟨w5.heap.size, 1, none⟩ = some (.string ⟨#[]⟩) := by rw [(bcell hb6).1 _ _ (by simp)]; simp
        have zf : ∀ o, w6.frozen? ⟨w5.heap.size, o, none⟩ = false := fun o => by rw [(bcell hb6).2 _ _ (by simp)]; simp
        have hz6 : w5.heap.size < w6.heap.size := by have := hb6.size; simp at this; omega
        have hne : ¬ w5.heap.size = w.heap.size := by have := U5'.out.1; omega
        have B6' : Hid (Below w.heap.size w w6) := (B5'.out.trans (HA6.out.mono B5'.out.size)).trans (hb6.mono (by have := B5'.out.size; simp; omega))
        obtain ⟨hzw, x0, x1, xf⟩ := U6
        clear hb6
        go_wp2
        have y0 : (((w6.setCell ⟨w5.heap.size, 1, none⟩ (.string sD)).setCell ⟨w.heap.size, 0, none⟩ (.string sS)).setCell ⟨w.heap.size, 1, none⟩ (.string sD)).cell? ⟨w.heap.size, 0, none⟩ = some (.string sS) := by
          rw [World.cell?_setCell_other _ _ _ _ (by simp)]
          exact World.cell?_setCell_same _ _ _ ((World.cell?_setCell_other _ _ _ _ (by simp)).trans x0)
        have y1 : (((w6.setCell ⟨w5.heap.size, 1, none⟩ (.string sD)).setCell ⟨w.heap.size, 0, none⟩ (.string sS)).setCell ⟨w.heap.size, 1, none⟩ (.string sD)).cell? ⟨w.heap.size, 1, none⟩ = some (.string sD) :=
          World.cell?_setCell_same _ _ _ ((World.cell?_setCell_other _ _ _ _ (by simp)).trans ((World.cell?_setCell_other _ _ _ _ (by simp)).trans x1))
        have yb : Below w.heap.size w (((w6.setCell ⟨w5.heap.size, 1, none⟩ (.string sD)).setCell ⟨w.heap.size, 0, none⟩ (.string sS)).setCell ⟨w.heap.size, 1, none⟩ (.string sD)) := ((B6'.out.setCell (by have := U5'.out.1; simp; omega) _).setCell (Nat.le_refl _) _).setCell (Nat.le_refl _) _
        generalize ((w6.setCell ⟨w5.heap.size, 1, none⟩ (.string sD)).setCell ⟨w.heap.size, 0, none⟩ (.string sS)).setCell ⟨w.heap.size, 1, none⟩ (.string sD) = W at *
        exact bodyPost_ret (v := sufV sS sD) (by simp [sufV, results, Tryd.results14, go_sem, y0, y1]) rfl ⟨by rw [HZ.out], yb⟩
end Go.Proofs.YtfoekelhcmlagaaDoor

/- The walk of the program's DomainRight. -/
namespace Go.Proofs.YtfoekelhcmlagaaDoor
open Go.RowKit

theorem domR_suf (n : Nat) (f : Nat → ByteArray) (s : ByteArray) : domR n f s = (!s.toList.isEmpty && ((sufOf n f s).2.toList == s.toList)) := by
  have e0 : s.toList.isEmpty = true → s.size = 0 := fun h => by
    rw [Lib.toList_data, List.isEmpty_iff] at h
    rw [Lib.size_eq, h]; rfl
  unfold domR domB sufOf
  cases hr : rulesB n f with
  | false =>
    cases he : s.toList.isEmpty with
    | true => rfl
    | false =>
      simp only [Bool.false_and, Bool.not_false, Bool.true_and, Bool.false_eq_true, false_and, if_false]
      symm
      rw [beq_eq_false_iff_ne]
      intro h
      rw [← h] at he
      rw [Lib.toList_data] at he; cases he
  | true =>
    cases hh : hostB s with
    | false =>
      cases he : s.toList.isEmpty with
      | true => rfl
      | false =>
        simp only [Bool.false_and, Bool.and_false, Bool.not_false, Bool.true_and, Bool.false_eq_true, and_false, if_false]
        symm
        rw [beq_eq_false_iff_ne]
        intro h
        rw [← h] at he
        rw [Lib.toList_data] at he; cases he
    | true =>
      have hp := (hostB_pos hh).1
      cases he : s.toList.isEmpty with
      | true => have := e0 he; omega
      | false => simp

set_option maxRecDepth 10000 in
set_option maxHeartbeats 1000000 in
theorem domainRight_any (v : Value) (n B : Nat) (f : Nat → ByteArray) (s : ByteArray) (w : World) (hG : MaxI w) (hs : SliceS w B v n f) (l1 : n ≤ 1048576) (hf : ∀ i, i < n → (f i).size ≤ 1048576) (hz : s.size ≤ 1048576) :
    Calls Tryd.prog 103 #[v, .string s] w fun e w' => e = .returned (.bool (domR n f s)) ∧ Below w.heap.size w w' := by
  have KS : Hid (Calls Tryd.prog 14 #[v, .string s] w fun e w' => e = .returned (.agg #[.string (sufOf n f s).1, .string (sufOf n f s).2]) ∧ Below w.heap.size w w') := suffixOf_any v n B f s w hG hs l1 hf hz
  have HD : Hid (domR n f s = (!s.toList.isEmpty && ((sufOf n f s).2.toList == s.toList))) := domR_suf n f s
  have hfd : ∀ (a b : ByteArray) (W : World), Sem.run Tryd.prog (Instr.field 27 (.agg #[.string a, .string b]) 1) W = .ok (.string b) W := field_dom
  clear hf hs hG
  generalize domR n f s = d at *
  generalize (sufOf n f s).1 = sA at *
  generalize (sufOf n f s).2 = sB at *
  cases he : s.toList.isEmpty with
  | true =>
    have HZ : Hid (d = false) := by show _ = _; rw [HD.out, he]; rfl
    go_enter Tryd.func103, Tryd.ntmps103
    go_wp2
    go_ret
    exact ⟨ret_b (by rw [HZ.out]), Below.refl _ _⟩
  | false =>
    have HZ : Hid (d = (sB.toList == s.toList)) := by show _ = _; rw [HD.out, he]; rfl
    clear HD
    go_enter Tryd.func103, Tryd.ntmps103
    go_wp2_with fail
    refine KS.out.mono ?_
    rintro e w1 ⟨rfl, hb1⟩
    go_wp2
    go_ret
    exact ⟨ret_b (by rw [HZ.out]), hb1⟩
end Go.Proofs.YtfoekelhcmlagaaDoor

/- The walk of the program's domainsRight. -/
namespace Go.Proofs.YtfoekelhcmlagaaDoor
open Go.RowKit

/-- the member at a place is right, and greater than the one ahead of it -/
def okN (n : Nat) (f : Nat → ByteArray) (x : SetL) (i : Nat) : Bool :=
  domR n f (atL x.2 i) && (i == 0 || Op.bytesLess (atL x.2 (i - 1)).toList (atL x.2 i).toList)
/-- right by itself, but that the primary is no member -/
def domsB (n : Nat) (f : Nat → ByteArray) (x : SetL) : Bool :=
  domR n f x.1 && decide (1 ≤ x.2.length) && decide (x.2.length ≤ 4) && decide (∀ i, i < x.2.length → okN n f x i = true)
theorem domsB_at {n : Nat} {f : Nat → ByteArray} {x : SetL} (k : Nat) (h : k < x.2.length) (hk : okN n f x k = false) : domsB n f x = false := by
  unfold domsB
  rw [decide_eq_false (p := ∀ i, i < x.2.length → okN n f x i = true) (fun h' => by rw [h' k h] at hk; cases hk), Bool.and_false]
theorem domsB_all {n : Nat} {f : Nat → ByteArray} {x : SetL} (h0 : domR n f x.1 = true) (h1 : 1 ≤ x.2.length) (h2 : x.2.length ≤ 4) (h : ∀ i, i < x.2.length → okN n f x i = true) : domsB n f x = true := by
  unfold domsB
  rw [decide_eq_true h, decide_eq_true h1, decide_eq_true h2, h0]; rfl
theorem domsB_parts {n : Nat} {f : Nat → ByteArray} {x : SetL} (h : domsB n f x = true) : domR n f x.1 = true ∧ 1 ≤ x.2.length ∧ x.2.length ≤ 4 ∧ ∀ i, i < x.2.length → okN n f x i = true := by
  unfold domsB at h
  rw [Bool.and_eq_true, Bool.and_eq_true, Bool.and_eq_true, decide_eq_true_eq, decide_eq_true_eq, decide_eq_true_eq] at h
  exact ⟨h.1.1.1, h.1.1.2, h.1.2, h.2⟩
theorem domsB_no {n : Nat} {f : Nat → ByteArray} {x : SetL} (h : ¬ (domR n f x.1 = true ∧ 1 ≤ x.2.length ∧ x.2.length ≤ 4)) : domsB n f x = false := by
  cases e : domsB n f x with
  | false => rfl
  | true => exact absurd (let h := domsB_parts e; ⟨h.1, h.2.1, h.2.2.1⟩) h
theorem okN_succ {n : Nat} {f : Nat → ByteArray} {x : SetL} {k : Nat} (h : ∀ i, i < k → okN n f x i = true) (hk : okN n f x k = true) : ∀ i, i < k + 1 → okN n f x i = true := by
  intro i hi
  by_cases e : i = k
  · subst e; exact hk
  · exact h i (by omega)

set_option maxRecDepth 10000 in
set_option maxHeartbeats 4000000 in
theorem domainsRight_any (v : Value) (n B : Nat) (f : Nat → ByteArray) (x : SetL) (u : Value) (B' : Nat) (w : World) (hG : MaxI w) (hr : SliceS w B v n f) (l1 : n ≤ 1048576) (hf : ∀ i, i < n → (f i).size ≤ 1048576) (hs : SliceS w B' u x.2.length (atL x.2)) (hn : x.2.length ≤ 1048576) (hz : x.1.size ≤ 1048576) (hy : ∀ i, i < x.2.length → (atL x.2 i).size ≤ 1048576) :
    Calls Tryd.prog 182 #[v, .agg #[.string x.1, u]] w fun e w' => e = .returned (.bool (domsB n f x)) ∧ Below w.heap.size w w' := by
  have B0 : Hid (Below w.heap.size w (w.alloc (.cells #[.string x.1, u] 47))) := (Below.refl _ _).alloc (Nat.le_refl _) _
  have KX : Hid (∀ t, t.size ≤ 1048576 → ∀ W, Below w.heap.size w W → Calls Tryd.prog 103 #[v, .string t] W fun e w' => e = .returned (.bool (domR n f t)) ∧ Below W.heap.size W w') := fun t ht W hb => domainRight_any v n B f t W (hG.on hb) (hr.below hb) l1 hf ht
  have HA : Hid ((∀ k, k < x.2.length → okN n f x k = false → domsB n f x = false) ∧ (domR n f x.1 = true → 1 ≤ x.2.length → x.2.length ≤ 4 → (∀ i, i < x.2.length → okN n f x i = true) → domsB n f x = true) ∧ (¬ (domR n f x.1 = true ∧ 1 ≤ x.2.length ∧ x.2.length ≤ 4) → domsB n f x = false)) := ⟨fun k a b => domsB_at k a b, domsB_all, domsB_no⟩
  have hge : ∀ (t : TypeId) (a b : ByteArray), binOp .geq t (.string a) (.string b) = pure (.bool (!(Op.bytesLess a.toList b.toList))) := geq_text
  obtain ⟨p, M⟩ := x
  dsimp only at hs hn hz hy B0 HA ⊢
  have HZ : Hid (∀ i, i < M.length → (atL M i).size ≤ 1048576) := hy
  have HM : Hid (∀ k, okN n f (p, M) k = (domR n f (atL M k) && (k == 0 || Op.bytesLess (atL M (k - 1)).toList (atL M k).toList))) := fun k => rfl
  generalize domsB n f (p, M) = R at *
  have HS : Hid (SliceS w B' u M.length (atL M)) := hs
  clear hs hr hf hG hy
  obtain ⟨q, cap, rfl, -⟩ := HS.out
  have K1 : Hid (Calls Tryd.prog 103 #[v, .string p] (w.alloc (.cells #[.string p, .slice q M.length cap] 47)) fun e w' => e = .returned (.bool (domR n f p)) ∧ Below (w.alloc (.cells #[.string p, .slice q M.length cap] 47)).heap.size (w.alloc (.cells #[.string p, .slice q M.length cap] 47)) w') := KX.out p hz _ B0.out
  cases hdp : domR n f p with
  | false =>
    have HQ : Hid (R = false) := HA.out.2.2 (by rw [hdp]; rintro ⟨a, _⟩; cases a)
    rw [hdp] at K1
    go_enter Tryd.func182, Tryd.ntmps182
    go_wp2_with fail
    refine K1.out.mono ?_
    rintro e w1 ⟨rfl, hb1⟩
    go_wp2
    go_ret
    exact ⟨ret_b HQ.out.symm, B0.out.trans (hb1.mono B0.out.size)⟩
  | true =>
  rw [hdp] at K1
  by_cases hM0 : M.length < 1
  · have HQ : Hid (R = false) := HA.out.2.2 (fun a => by omega)
    have hM : M = [] := List.length_eq_zero_iff.1 (by omega)
    subst hM
    go_enter Tryd.func182, Tryd.ntmps182
    go_wp2_with fail
    refine K1.out.mono ?_
    rintro e w1 ⟨rfl, hb1⟩
    have b1 : w1.cell? ⟨w.heap.size, 1, none⟩ = some (.slice q ([] : List ByteArray).length cap) := by rw [(bcell hb1).1 _ _ (by simp)]; simp
    have B1 : Hid (Below w.heap.size w w1) := B0.out.trans (hb1.mono B0.out.size)
    clear hb1
    go_wp2
    go_ret
    exact ⟨ret_b HQ.out.symm, B1.out⟩
  have q0 : ((M.length : Int) == 0) = false := by rw [beq_eq_false_iff_ne]; omega
  have q0' : decide ((M.length : Int) = 0) = false := by rw [decide_eq_false_iff_not]; omega
  have q00 : ¬ M = [] := fun e => by rw [e] at hM0; exact hM0 (by decide)
  by_cases hM4 : 4 < M.length
  · have HQ : Hid (R = false) := HA.out.2.2 (fun a => by omega)
    have q1 : decide ((4 : Int) < (M.length : Int)) = true := by rw [decide_eq_true_iff]; omega
    go_enter Tryd.func182, Tryd.ntmps182
    go_wp2_with fail
    refine K1.out.mono ?_
    rintro e w1 ⟨rfl, hb1⟩
    have b1 : w1.cell? ⟨w.heap.size, 1, none⟩ = some (.slice q M.length cap) := by rw [(bcell hb1).1 _ _ (by simp)]; simp
    have B1 : Hid (Below w.heap.size w w1) := B0.out.trans (hb1.mono B0.out.size)
    clear hb1
    go_wp2
    go_ret
    exact ⟨ret_b HQ.out.symm, B1.out⟩
  have q1 : decide ((4 : Int) < (M.length : Int)) = false := by rw [decide_eq_false_iff_not]; omega
  have HN : Hid (∀ k, k < M.length → okN n f (p, M) k = false → R = false) := HA.out.1
  have HY : Hid ((∀ i, i < M.length → okN n f (p, M) i = true) → R = true) := HA.out.2.1 hdp (by omega) (by omega)
  obtain ⟨q', cap', e', hg⟩ := HS.out
  obtain ⟨g, rfl, -, hgw, hc⟩ := hg (by omega)
  obtain rfl : q = some ⟨g, 0, none⟩ := by injection e'
  have HC : Hid (∀ j, j < M.length → w.cell? ⟨g, j, none⟩ = some (.string (atL M j))) := fun j hj => (hc j hj).1
  clear HA hg hc e' hdp
  go_enter Tryd.func182, Tryd.ntmps182
  go_wp2_with fail
  refine K1.out.mono ?_
  rintro e w1 ⟨rfl, hb1⟩
  have e1 : w1.cell? ⟨w.heap.size, 1, none⟩ = some (.slice (some ⟨g, 0, none⟩) M.length cap) := by rw [(bcell hb1).1 _ _ (by simp)]; simp
  have B1 : Hid (Below w.heap.size w w1) := B0.out.trans (hb1.mono B0.out.size)
  have hbw : w.heap.size < w1.heap.size := by have := hb1.size; simp at this; omega
  clear hb1 K1 B0
  go_wp2
  go_loopw [27] (fun i wr => ∃ k : Nat, k ≤ M.length ∧ i = .int .i64 k ∧ Hid (Below w1.heap.size w1 wr) ∧ Hid (∀ j, j < k → okN n f (p, M) j = true)) (fun i _ => M.length - (intOf i).toNat)
  case atStart => exact ⟨0, Nat.zero_le _, rfl, Below.refl _ _, fun j hj => absurd hj (by omega)⟩
  case round =>
    obtain ⟨k, hk, rfl, HB, HR⟩ := hrel
    have b1 : wr.cell? ⟨w.heap.size, 1, none⟩ = some (.slice (some ⟨g, 0, none⟩) M.length cap) := by rw [(bcell HB.out).1 _ _ hbw]; exact e1
    have hbr : w.heap.size < wr.heap.size := Nat.lt_of_lt_of_le hbw HB.out.size
    by_cases hlt : k < M.length
    · have hgw1 : g < w1.heap.size := Nat.lt_of_lt_of_le hgw B1.out.size
      have hgr : g < wr.heap.size := Nat.lt_of_lt_of_le hgw1 HB.out.size
      have HCr : Hid (∀ j, j < M.length → wr.cell? ⟨g, j, none⟩ = some (.string (atL M j))) := fun j hj => by rw [(bcell HB.out).1 _ _ hgw1, (bcell B1.out).1 _ _ hgw]; exact HC.out j hj
      have hck : wr.cell? ⟨g, k, none⟩ = some (.string (atL M k)) := HCr.out k hlt
      have KD0 : Calls Tryd.prog 103 #[v, .string (atL M k)] wr fun e w' => e = .returned (.bool (domR n f (atL M k))) ∧ Below wr.heap.size wr w' := KX.out (atL M k) (HZ.out k hlt) wr (B1.out.trans (HB.out.mono B1.out.size))
      have k0 : (0 : Int) ≤ k := by omega
      have k1 : (k : Int) < M.length := by omega
      have HMk := HM.out k
      cases hd : domR n f (atL M k) with
      | false =>
        have HQ : Hid (R = false) := HN.out k hlt (by rw [HMk, hd]; rfl)
        rw [hd] at KD0
        have KD : Hid (Calls Tryd.prog 103 #[v, .string (atL M k)] wr fun e w' => e = .returned (.bool false) ∧ Below wr.heap.size wr w') := KD0
        clear KD0 hd HMk
        generalize atL M k = t at *
        go_wp2_with fail
        refine KD.out.mono ?_
        rintro e w2 ⟨rfl, hb2⟩
        have B2 : Hid (Below w.heap.size w w2) := (B1.out.trans (HB.out.mono B1.out.size)).trans (hb2.mono (Nat.le_of_lt hbr))
        clear hb2
        go_wp2
        go_ret
        exact ⟨ret_b HQ.out.symm, B2.out⟩
      | true =>
        rw [hd] at KD0 HMk
        have KD : Hid (Calls Tryd.prog 103 #[v, .string (atL M k)] wr fun e w' => e = .returned (.bool true) ∧ Below wr.heap.size wr w') := KD0
        clear KD0 hd
        cases k with
        | zero =>
          have HK : Hid (okN n f (p, M) 0 = true) := by show _ = _; rw [HMk]; rfl
          clear HMk
          generalize atL M 0 = t at *
          have q2 : decide ((0 : Int) < ((0 : Nat) : Int)) = false := by decide
          go_wp2_with fail
          refine KD.out.mono ?_
          rintro e w2 ⟨rfl, hb2⟩
          have B2 : Hid (Below w1.heap.size w1 w2) := HB.out.trans (hb2.mono HB.out.size)
          clear hb2
          go_wp2
          go_roundw
          case rel => exact ⟨1, by omega, by go_num, B2, okN_succ (k := 0) (fun i hi => absurd hi (by omega)) HK.out⟩
          case measure => simp [intOf]; omega
        | succ m =>
          have hcm : wr.cell? ⟨g, m, none⟩ = some (.string (atL M m)) := HCr.out m (by omega)
          have HE : Hid (okN n f (p, M) (m + 1) = Op.bytesLess (atL M m).toList (atL M (m + 1)).toList) := by show _ = _; rw [HMk]; rfl
          clear HMk
          have q2 : decide ((0 : Int) < ((m : Int) + 1)) = true := by rw [decide_eq_true_iff]; omega
          have p0 : (0 : Int) ≤ (m : Int) + 1 := by omega
          have p1 : (m : Int) + 1 < M.length := by omega
          have m0 : (0 : Int) ≤ m := by omega
          have m1 : (m : Int) < M.length := by omega
          cases hless : Op.bytesLess (atL M m).toList (atL M (m + 1)).toList with
          | true =>
            have HK : Hid (okN n f (p, M) (m + 1) = true) := by show _ = _; rw [HE.out, hless]
            clear HE
            generalize atL M (m + 1) = t at *
            generalize atL M m = s at *
            go_wp2_with fail
            refine KD.out.mono ?_
            rintro e w2 ⟨rfl, hb2⟩
            have x1 : w2.cell? ⟨w.heap.size, 1, none⟩ = some (.slice (some ⟨g, 0, none⟩) M.length cap) := ((bcell hb2).1 _ _ hbr).trans b1
            have x2 : w2.cell? ⟨g, m, none⟩ = some (.string s) := ((bcell hb2).1 _ _ hgr).trans hcm
            have B2 : Hid (Below w1.heap.size w1 w2) := HB.out.trans (hb2.mono HB.out.size)
            clear hb2
            go_wp2
            go_roundw
            case rel => exact ⟨m + 2, by omega, by go_num, B2, okN_succ HR.out HK.out⟩
            case measure => simp [intOf]; omega
          | false =>
            have HQ : Hid (R = false) := HN.out (m + 1) hlt (by rw [HE.out, hless])
            clear HE
            generalize atL M (m + 1) = t at *
            generalize atL M m = s at *
            go_wp2_with fail
            refine KD.out.mono ?_
            rintro e w2 ⟨rfl, hb2⟩
            have x1 : w2.cell? ⟨w.heap.size, 1, none⟩ = some (.slice (some ⟨g, 0, none⟩) M.length cap) := ((bcell hb2).1 _ _ hbr).trans b1
            have x2 : w2.cell? ⟨g, m, none⟩ = some (.string s) := ((bcell hb2).1 _ _ hgr).trans hcm
            have B2 : Hid (Below w.heap.size w w2) := (B1.out.trans (HB.out.mono B1.out.size)).trans (hb2.mono (Nat.le_of_lt hbr))
            clear hb2
            go_wp2
            go_ret
            exact ⟨ret_b HQ.out.symm, B2.out⟩
    · have HQ : Hid (R = true) := HY.out (fun i hi => HR.out i (by omega))
      go_wp2
      go_ret
      exact ⟨ret_b HQ.out.symm, B1.out.trans (HB.out.mono B1.out.size)⟩
end Go.Proofs.YtfoekelhcmlagaaDoor

/- The walk of the program's add. Written by impladd.py. -/
namespace Go.Proofs.YtfoekelhcmlagaaDoor
open Go.RowKit Go.Maps

theorem after_drew5 {w w' : World} (h : Below w.drew.heap.size w.drew w') : Below w.heap.size w w' := (Below.drew (Below.refl _ _)).trans h
/-- a set may come into a book -/
def addB (n : Nat) (f : Nat → ByteArray) (pl : ByteArray → Option Nat) (k : Nat) (x : SetL) : Bool := !(decide (k = 6)) && domsB n f x && newB pl k (allD x)
theorem domsB_sizes {n : Nat} {f : Nat → ByteArray} {x : SetL} (h : domsB n f x = true) : 0 < x.2.length ∧ x.2.length ≤ 4 ∧ x.1.size ≤ 100 ∧ ∀ i, i < x.2.length → (atL x.2 i).size ≤ 100 := by
  obtain ⟨h0, h1, h2, h3⟩ := domsB_parts h
  have hd : ∀ s, domR n f s = true → s.size ≤ 100 := fun s hs => by
    unfold domR at hs
    rw [Bool.and_eq_true] at hs
    exact (domB_size hs.2).2
  refine ⟨h1, h2, hd _ h0, fun i hi => ?_⟩
  have := h3 i hi
  unfold okN at this
  rw [Bool.and_eq_true] at this
  exact hd _ this.1
theorem infoSet6 : (Tryd.prog.info? 47).map (fun i => (i.zero, i.size, i.bytes)) = some (some (.agg #[.string ⟨#[]⟩, .slice none 0 0]), 2, 40) := by kernel_rfl
set_option maxRecDepth 10000 in
set_option maxHeartbeats 8000000 in
theorem add_any (B0 b bm N n B B' : Nat) (rv sv u : Value) (f : Nat → ByteArray) (T : List (SetL × Value)) (pl : ByteArray → Option Nat) (x : SetL) (w : World) (hG : MaxI w) (hr : SliceS w B rv n f) (l1 : n ≤ 1048576) (hf : ∀ i, i < n → (f i).size ≤ 1048576)
    (hs : SliceS w B' u x.2.length (atL x.2)) (hn : x.2.length ≤ 1048576) (hz1 : x.1.size ≤ 1048576) (hz : ∀ i, i < x.2.length → (atL x.2 i).size ≤ 1048576)
    (hB : BookR w B0 b bm rv T sv) (hm : MapIs w bm N pl) (hT : T.length ≤ 6) (hN : N ≤ 900) (e1 : ErrAt w 2) (e2 : ErrAt w 3) (e3 : ErrAt w 5) :
    Calls Tryd.prog 148 #[.pointer (some ⟨b, 0, none⟩), .agg #[.string x.1, u]] w fun e w' =>
      ((addB n f pl T.length x = true ∧ e = .returned .nilIface ∧ (∃ u' sv', BookR w' B0 b bm rv (T ++ [(x, u')]) sv') ∧ MapIs w' bm (N + 5) (plTo pl T.length (allD x) (allD x).length)) ∨ (addB n f pl T.length x = false ∧ (∃ ty v, e = .returned (.iface ty v)) ∧ BookR w' B0 b bm rv T sv ∧ MapIs w' bm (N + 5) pl)) ∧ Below B0 w w' := by
  obtain ⟨sp, sc, rfl⟩ : ∃ p c, sv = .slice p T.length c := by
    obtain ⟨_, ⟨rfl, h0⟩ | ⟨g, cap, cur, rfl, _⟩⟩ := hB.own
    · exact ⟨none, 0, by rw [h0]⟩
    · exact ⟨_, _, rfl⟩
  have HSx : Hid (SliceS w B' u x.2.length (atL x.2)) := hs
  obtain ⟨up, uc, rfl, -⟩ := hs
  have HBk : Hid (BookR w B0 b bm rv T (.slice sp T.length sc)) := hB
  have HMp : Hid (MapIs w bm N pl) := hm
  have HAdd : Hid (addB n f pl T.length x = (!(decide (T.length = 6)) && domsB n f x && newB pl T.length (allD x))) := rfl
  have KD : Hid (∀ W, Below w.heap.size w W → Calls Tryd.prog 182 #[rv, .agg #[.string x.1, .slice up x.2.length uc]] W fun e w' => e = .returned (.bool (domsB n f x)) ∧ Below W.heap.size W w') := fun W hb => domainsRight_any rv n B f x _ B' W (hG.on hb) (hr.below hb) l1 hf (HSx.out.below hb) hn hz1 hz
  have HSz : Hid (domsB n f x = true → 0 < x.2.length ∧ x.2.length ≤ 4 ∧ x.1.size ≤ 100 ∧ ∀ i, i < x.2.length → (atL x.2 i).size ≤ 100) := domsB_sizes
  obtain ⟨W0, hW⟩ : ∃ W0, W0 = w.alloc (.cells #[.string x.1, .slice up x.2.length uc] 47) := ⟨_, rfl⟩
  have hW0 : Hid (W0 = w.alloc (.cells #[.string x.1, .slice up x.2.length uc] 47)) := hW
  have HB0 : Hid (Below w.heap.size w W0) := by show Below _ _ _; rw [hW]; exact (Below.refl _ _).alloc (Nat.le_refl _) _
  have z0 : w.heap.size < W0.heap.size := by rw [hW]; simp
  have a0 : W0.cell? ⟨w.heap.size, 0, none⟩ = some (.string x.1) := by rw [hW]; simp
  have a1 : W0.cell? ⟨w.heap.size, 1, none⟩ = some (.slice up x.2.length uc) := by rw [hW]; simp
  have b0 : W0.cell? ⟨b, 0, none⟩ = some rv := (HBk.out.below HB0.out).c0
  have b1 : W0.cell? ⟨b, 1, none⟩ = some (.slice sp T.length sc) := (HBk.out.below HB0.out).c1
  have hbw : b < w.heap.size := World.block_lt_of_cell? w _ hB.c0
  have HRow : Hid (∀ g, (Value.slice sp T.length sc).ownBlock = some g → g < w.heap.size) := fun g e => (own_in5 hB.own e).2
  have hB0w : B0 ≤ w.heap.size := Nat.le_trans hB.hb (Nat.le_of_lt hbw)
  have E1 : Hid (ErrAt W0 2) := by obtain ⟨ty, v, h⟩ := e1; exact ⟨ty, v, ((bcell HB0.out).1 _ _ (World.block_lt_of_cell? w _ h)).trans h⟩
  have E2 : Hid (ErrAt w 3) := e2
  have E3 : Hid (ErrAt w 5) := e3
  have hrv : Hid (∃ p c, rv = .slice p n c) := by obtain ⟨p, c, e, -⟩ := hr; exact ⟨p, c, e⟩
  clear hW hG hr hf hB hm e1 e2 e3 hz hz1
  obtain ⟨rp, rc, rfl⟩ := hrv.out
  clear hrv
  generalize addB n f pl T.length x = R at *
  by_cases h6 : T.length = 6
  · have q6 : ((T.length : Int) == 6) = true := by rw [beq_iff_eq]; omega
    have HQ : Hid (R = false) := by show _ = _; rw [HAdd.out, decide_eq_true h6]; rfl
    obtain ⟨ety, ev, hev⟩ := E1.out
    have HF : Hid (BookR W0 B0 b bm (.slice rp n rc) T (.slice sp T.length sc) ∧ MapIs W0 bm (N + 5) pl ∧ Below B0 w W0) := ⟨HBk.out.below HB0.out, (HMp.out.below HB0.out).mono (by omega), HB0.out.mono hB0w⟩
    clear h6
    go_enter Tryd.func148, Tryd.ntmps148
    go_upto_region 1 with fail
    rw [← hW0.out]
    clear hW0
    go_wp2
    go_ret
    exact ⟨.inr ⟨HQ.out, ⟨_, _, rfl⟩, HF.out.1, HF.out.2.1⟩, HF.out.2.2⟩
  have q6 : ((T.length : Int) == 6) = false := by rw [beq_eq_false_iff_ne]; omega
  have HAdd2 : Hid (R = (domsB n f x && newB pl T.length (allD x))) := by show _ = _; rw [HAdd.out, decide_eq_false h6]; rfl
  clear HAdd h6
  have KD1 : Hid (∀ W, Below W0.heap.size W0 W → Calls Tryd.prog 182 #[.slice rp n rc, .agg #[.string x.1, .slice up x.2.length uc]] W fun e w' => e = .returned (.bool (domsB n f x)) ∧ Below W.heap.size W w') := fun W hb => KD.out W (HB0.out.trans (hb.mono HB0.out.size))
  clear KD
  generalize domsB n f x = bd at *
  go_enter Tryd.func148, Tryd.ntmps148
  go_upto_region 1 with fail
  rw [← hW0.out]
  clear hW0
  go_wp2_with fail
  have hbW : b < W0.heap.size := Nat.lt_trans hbw z0
  go_region_held3 (fun w' => w'.cell? ⟨b, 0, none⟩ = some (.slice rp n rc) ∧ w'.cell? ⟨w.heap.size, 0, none⟩ = some (.string x.1) ∧ w'.cell? ⟨w.heap.size, 1, none⟩ = some (.slice up x.2.length uc)) (go_keep)
    (first | (go_at_call 182; refine (KD1.out _ (Below.drew (Below.refl _ _))).mono ?_; rintro e w1 ⟨rfl, hb1⟩; have A1 : Below W0.heap.size W0 w1 := after_drew5 hb1; have l0 : w1.cell? ⟨b, 0, none⟩ = some (.slice rp n rc) := ((bcell A1).1 _ _ hbW).trans b0; have l1 : w1.cell? ⟨w.heap.size, 0, none⟩ = some (.string x.1) := ((bcell A1).1 _ _ z0).trans a0; have l2 : w1.cell? ⟨w.heap.size, 1, none⟩ = some (.slice up x.2.length uc) := ((bcell A1).1 _ _ z0).trans a1))
  have B1 : Hid (Below w.heap.size w w1) := HB0.out.trans (A1.mono HB0.out.size)
  have z1 : w.heap.size < w1.heap.size := Nat.lt_of_lt_of_le z0 A1.size
  clear hb1 A1 a0 a1 b0 b1 KD1 E1
  cases bd with
  | false =>
    have HQ : Hid (R = false) := by show _ = _; rw [HAdd2.out]; rfl
    have E21 : ErrAt w1 3 := by obtain ⟨ty, v, h⟩ := E2.out; exact ⟨ty, v, ((bcell B1.out).1 _ _ (World.block_lt_of_cell? w _ h)).trans h⟩
    obtain ⟨ety, ev, hev⟩ := E21
    have HF : Hid (BookR w1 B0 b bm (.slice rp n rc) T (.slice sp T.length sc) ∧ MapIs w1 bm (N + 5) pl ∧ Below B0 w w1) := ⟨HBk.out.below B1.out, (HMp.out.below B1.out).mono (by omega), B1.out.mono hB0w⟩
    go_wp2
    go_ret
    exact ⟨.inr ⟨HQ.out, ⟨_, _, rfl⟩, HF.out.1, HF.out.2.1⟩, HF.out.2.2⟩
  | true =>
    obtain ⟨hx0, hx4, hxp, hxm⟩ := HSz.out rfl
    have Bk1 : Hid (BookR w1 B0 b bm (.slice rp n rc) T (.slice sp T.length sc)) := HBk.out.below B1.out
    have M1 : Hid (MapIs w1 bm N pl) := HMp.out.below B1.out
    have S1 : Hid (SliceS w1 B' (.slice up x.2.length uc) x.2.length (atL x.2)) := HSx.out.below B1.out
    have KT : Hid (Calls Tryd.prog 183 #[.pointer (some ⟨b, 0, none⟩), .agg #[.string x.1, .slice up x.2.length uc]] w1 fun e w' =>
      ((newB pl T.length (allD x) = true ∧ e = .returned .nilIface ∧ MapIs w' bm (N + 5) (plTo pl T.length (allD x) (allD x).length)) ∨ (newB pl T.length (allD x) = false ∧ (∃ ty v, e = .returned (.iface ty v)) ∧ MapIs w' bm (N + 5) pl)) ∧ w1.grownBy w' (some bm)) := take_any b bm N T.length sc sp x _ B' pl w1 S1.out hx0 hx4 (by omega) (fun i hi => by have := hxm i hi; omega) Bk1.out.c1 Bk1.out.c2 M1.out (by omega) (by omega) (by obtain ⟨ty, v, h⟩ := E3.out; exact ⟨ty, v, ((bcell B1.out).1 _ _ (World.block_lt_of_cell? w _ h)).trans h⟩)
    have HXS : Hid (x.1.size ≤ 1000 ∧ ∀ i, i < x.2.length → (atL x.2 i).size ≤ 1000) := ⟨by omega, fun i hi => by have := hxm i hi; omega⟩
    clear hxm hxp HSz HSx HBk HMp E2 E3
    generalize newB pl T.length (allD x) = bn at *
    go_wp2_with fail
    refine KT.out.mono ?_
    rintro e w2 ⟨hres, hg2⟩
    have hbm1 : w.heap.size ≠ bm := M1.out.ne l1
    have m1 : w2.cell? ⟨w.heap.size, 0, none⟩ = some (.string x.1) := grown_cell hg2 l1 hbm1
    have m2 : w2.cell? ⟨w.heap.size, 1, none⟩ = some (.slice up x.2.length uc) := grown_cell hg2 l2 hbm1
    have Bk2 : Hid (BookR w2 B0 b bm (.slice rp n rc) T (.slice sp T.length sc)) := Bk1.out.turned M1.out hg2
    have S2 : Hid (SliceS w2 B' (.slice up x.2.length uc) x.2.length (atL x.2)) := S1.out.keepG hg2 (fun h => by obtain ⟨g, e, -, -, hc⟩ := S1.out.place h; rw [e]; intro e2; exact M1.out.ne hc (Option.some.inj e2))
    have B2 : Hid (Below B0 w w2) := (B1.out.mono hB0w).grown hg2 (Nat.le_trans hB0w B1.out.size) (fun j hj => by have := Option.some.inj hj; have := Bk1.out.hbm; omega)
    have z2 : w.heap.size < w2.heap.size := Nat.lt_of_lt_of_le z1 hg2.size
    clear hg2 KT S1 Bk1 M1 l0 l1 l2
    rcases hres with ⟨rfl, rfl, hm2⟩ | ⟨rfl, ⟨ty, v, rfl⟩, hm2⟩
    case inr =>
      have HQ : Hid (R = false) := by show _ = _; rw [HAdd2.out]; rfl
      have HF : Hid (MapIs w2 bm (N + 5) pl) := hm2
      clear hm2
      go_wp2
      go_ret
      exact ⟨.inr ⟨HQ.out, ⟨_, _, rfl⟩, Bk2.out, HF.out⟩, B2.out⟩
    case inl =>
      have HQ : Hid (R = true) := by show _ = _; rw [HAdd2.out]; rfl
      have M2 : Hid (MapIs w2 bm (N + 5) (plTo pl T.length (allD x) (allD x).length)) := hm2
      have KC : Hid (∀ W, Below w2.heap.size w2 W → Calls Tryd.prog 184 #[.agg #[.string x.1, .slice up x.2.length uc]] W fun e w' => ∃ p c, e = .returned (.agg #[.string x.1, .slice p x.2.length c]) ∧ SliceS w' W.heap.size (.slice p x.2.length c) x.2.length (atL x.2) ∧ Below W.heap.size W w') := fun W hb => setCopy_any x _ B' W (S2.out.below hb) hx0 (by omega) HXS.out.1 HXS.out.2
      have c1 : w2.cell? ⟨b, 1, none⟩ = some (.slice sp T.length sc) := Bk2.out.c1
      have cf := Bk2.out.fz 1
      have hb2 : b < w2.heap.size := Nat.lt_trans hbw z2
      have hfar : ¬ b = w.heap.size := by omega
      have nb : (Value.slice sp T.length sc).ownBlock ≠ some b := Bk2.out.nb
      have nx : (Value.slice sp T.length sc).ownBlock ≠ some w.heap.size := fun e => by have := HRow.out _ e; omega
      obtain ⟨i0, hi, hy0, hy1, hy2⟩ := info_parts infoSet6
      have HT4 : Hid ((T.length + 1) * 40 ≤ 140737488355328 ∧ T.length + 1 ≤ maxLen) := by show _ ∧ _; unfold maxLen; omega
      clear hm2 S2 HXS
      go_wp2_with fail
      refine wp_region_held_drew (S := (fun w' => w'.cell? ⟨w.heap.size, 0, none⟩ = some (.string x.1) ∧ w'.cell? ⟨w.heap.size, 1, none⟩ = some (.slice up x.2.length uc))) (by kernel_rfl) ?_ (fun hH0 => ?_)
      · (try dsimp only)
        first | go_keep | (refine ⟨?_, ?_⟩ <;> assumption) | (refine ⟨?_, ?_⟩ <;> (rw [World.cell?_setCell_far _ _ _ _ hfar]; assumption))
      refine wpAnyH_take (i := 0) (oi := { dst := some 27, op := Op.move (Operand.tmp 0), type := 154, pos := "l05_related.go:79", after := #[], guard := none }) (v := ?va1) rfl (by kernel_rfl) (by kernel_rfl) (by kernel_rfl) (fun _ _ _ h => h) (Or.inl ⟨by rfl, ?hya1⟩) (by assumption) ?resta1
      case hya1 =>
        intro w hSw
        (try dsimp only at hSw)
        go_simp
        try with_reducible rfl
      try simp only [Act.put, List.setIfInBounds_toArray, List.set_cons_zero, List.set_cons_succ]
      refine wpAnyH_take (i := 1) (oi := { dst := some 28, op := Op.move (Operand.tmp 0), type := 154, pos := "l05_related.go:79", after := #[], guard := none }) (v := ?va2) rfl (by kernel_rfl) (by kernel_rfl) (by kernel_rfl) (fun _ _ _ h => h) (Or.inl ⟨by rfl, ?hya2⟩) (by assumption) ?resta2
      case hya2 =>
        intro w hSw
        (try dsimp only at hSw)
        go_simp
        try with_reducible rfl
      try simp only [Act.put, List.setIfInBounds_toArray, List.set_cons_zero, List.set_cons_succ]
      refine wpAnyH_take (i := 2) (oi := { dst := some 29, op := Op.nilCheck (Operand.tmp 28), type := 0, pos := "l05_related.go:79", after := #[{ on := 1, ground := Ground.data }], guard := none }) (v := ?va3) rfl (by kernel_rfl) (by kernel_rfl) (by kernel_rfl) (fun _ _ _ h => h) (Or.inl ⟨by rfl, ?hya3⟩) (by assumption) ?resta3
      case hya3 =>
        intro w hSw
        (try dsimp only at hSw)
        go_simp
        try with_reducible rfl
      try simp only [Act.put, List.setIfInBounds_toArray, List.set_cons_zero, List.set_cons_succ]
      refine wpAnyH_take (i := 3) (oi := { dst := some 30, op := Op.fieldAddr 107 (Operand.tmp 29) 1, type := 0, pos := "l05_related.go:79", after := #[{ on := 2, ground := Ground.data }], guard := none }) (v := ?va4) rfl (by kernel_rfl) (by kernel_rfl) (by kernel_rfl) (fun _ _ _ h => h) (Or.inl ⟨by rfl, ?hya4⟩) (by assumption) ?resta4
      case hya4 =>
        intro w hSw
        (try dsimp only at hSw)
        go_simp
        try with_reducible rfl
      try simp only [Act.put, List.setIfInBounds_toArray, List.set_cons_zero, List.set_cons_succ]
      refine wpAnyH_take (i := 5) (oi := { dst := some 32, op := Op.load 47 (Operand.tmp 3), type := 47, pos := "l05_related.go:79", after := #[], guard := none }) (v := ?va5) rfl (by kernel_rfl) (by kernel_rfl) (by kernel_rfl) (fun _ _ _ h => h) (Or.inl ⟨by rfl, ?hya5⟩) (by assumption) ?resta5
      case hya5 =>
        intro w hSw
        (try dsimp only at hSw)
        go_simp
        try with_reducible rfl
      try simp only [Act.put, List.setIfInBounds_toArray, List.set_cons_zero, List.set_cons_succ]
      refine wpAnyH_ready (rs := [4, 6]) (by kernel_rfl) (by simp) ?_
      refine AllReadyH.cons (o := { dst := some 31, op := Op.load 41 (Operand.tmp 30), type := 41, pos := "l05_related.go:79", after := #[{ on := 3, ground := Ground.data }], guard := none }) rfl (fun K hK => ?_) (AllReadyH.cons (o := { dst := some 33, op := Op.call { callee := Callee.value (Operand.func 184), args := #[Operand.tmp 32], argTypes := #[47] }, type := 47, pos := "l05_related.go:79", after := #[{ on := 5, ground := Ground.data }], guard := none }) rfl (fun K hK => ?_) AllReadyH.nil)
      · skip
        go_simp
        try (go_wp2_with fail)
        refine hK.out _ _ ?_ (fun hH1 => ?_)
        · (try dsimp only)
          first | go_keep | (refine ⟨?_, ?_⟩ <;> assumption) | (refine ⟨?_, ?_⟩ <;> (rw [World.cell?_setCell_far _ _ _ _ hfar]; assumption))
        clear hK K hH0
        try simp only [Act.put, List.setIfInBounds_toArray, List.set_cons_zero, List.set_cons_succ]
        refine wpAnyH_ready (rs := [6]) (by kernel_rfl) (by simp) ?_
        refine AllReadyH.cons (o := { dst := some 33, op := Op.call { callee := Callee.value (Operand.func 184), args := #[Operand.tmp 32], argTypes := #[47] }, type := 47, pos := "l05_related.go:79", after := #[{ on := 5, ground := Ground.data }], guard := none }) rfl (fun K hK => ?_) AllReadyH.nil
        · skip
          go_simp
          (go_at_call 184; refine (KC.out _ (Below.drew (Below.refl _ _))).mono ?_; rintro e w3 ⟨cp, cc, rfl, hs3, hb3⟩; have A3 : Below w2.heap.size w2 w3 := after_drew5 hb3; have hz3 : w2.heap.size ≤ w3.heap.size := A3.size; have d0 : w3.cell? ⟨w.heap.size, 0, none⟩ = some (.string x.1) := ((bcell A3).1 _ _ z2).trans m1; have d2 : w3.cell? ⟨w.heap.size, 1, none⟩ = some (.slice up x.2.length uc) := ((bcell A3).1 _ _ z2).trans m2; have d1 : w3.cell? ⟨b, 1, none⟩ = some (.slice sp T.length sc) := ((bcell A3).1 _ _ hb2).trans c1; have S3 : Hid (SliceS w3 w2.heap.size (.slice cp x.2.length cc) x.2.length (atL x.2)) := hs3; have O3 : Hid (w3.ownsRow B0 47 2 (.slice sp T.length sc) T.length (setCs T)) := ownR_below Bk2.out.own A3; have da : ∀ o, (w3.alloc o).cell? ⟨b, 1, none⟩ = some (.slice sp T.length sc) := fun o => ((bcell ((Below.refl w3.heap.size w3).alloc (Nat.le_refl _) o)).1 _ _ (Nat.lt_of_lt_of_le hb2 hz3)).trans d1; have dx0 : ∀ o, (w3.alloc o).cell? ⟨w.heap.size, 0, none⟩ = some (.string x.1) := fun o => ((bcell ((Below.refl w3.heap.size w3).alloc (Nat.le_refl _) o)).1 _ _ (Nat.lt_of_lt_of_le z2 hz3)).trans d0; have dx1 : ∀ o, (w3.alloc o).cell? ⟨w.heap.size, 1, none⟩ = some (.slice up x.2.length uc) := fun o => ((bcell ((Below.refl w3.heap.size w3).alloc (Nat.le_refl _) o)).1 _ _ (Nat.lt_of_lt_of_le z2 hz3)).trans d2; clear hb3 hs3)
          try (go_wp2_with fail)
          refine hK.out _ _ ?_ (fun hH2 => ?_)
          · (try dsimp only)
            first | go_keep | (refine ⟨?_, ?_⟩ <;> assumption) | (refine ⟨?_, ?_⟩ <;> (rw [World.cell?_setCell_far _ _ _ _ hfar]; assumption))
          clear hK K hH1
          try simp only [Act.put, List.setIfInBounds_toArray, List.set_cons_zero, List.set_cons_succ]
          refine wpAnyH_ready (rs := [7]) (by kernel_rfl) (by simp) ?_
          refine AllReadyH.cons (o := { dst := some 34, op := Op.buildSlice 41 1 #[(0, Operand.tmp 33)], type := 41, pos := "l05_related.go:79", after := #[{ on := 6, ground := Ground.data }], guard := none }) rfl (fun K hK => ?_) AllReadyH.nil
          · skip
            go_simp
            try (go_wp2_with fail)
            refine hK.out _ _ ?_ (fun hH3 => ?_)
            · (try dsimp only)
              first | go_keep | (refine ⟨?_, ?_⟩ <;> assumption) | (refine ⟨?_, ?_⟩ <;> (rw [World.cell?_setCell_far _ _ _ _ hfar]; assumption))
            clear hK K hH2
            try simp only [Act.put, List.setIfInBounds_toArray, List.set_cons_zero, List.set_cons_succ]
            refine wpAnyH_ready (rs := [8]) (by kernel_rfl) (by simp) ?_
            refine AllReadyH.cons (o := { dst := some 35, op := Op.call { callee := Callee.builtin Builtin.append, args := #[Operand.tmp 31, Operand.tmp 34], argTypes := #[41, 41] }, type := 41, pos := "l05_related.go:79", after := #[{ on := 4, ground := Ground.data }, { on := 7, ground := Ground.data }, { on := 6, ground := Ground.chain }], guard := none }) rfl (fun K hK => ?_) AllReadyH.nil
            · skip
              (refine step_append_lies _ (by rfl) _ _ _ (by rfl) B0 47 i0 (.agg #[.string ⟨#[]⟩, .slice none 0 0]) 2 40 Tryd.underlying41 hi hy0 hy1 hy2 rfl (by omega) (.slice sp T.length sc) T.length (setCs T) (by rfl) (O3.out.alloc _) ⟨w3.heap.size, 0, none⟩ 1 1 [.string x.1, .slice cp x.2.length cc] (by rfl) (by rfl) (World.news_of_block (cs := #[.string x.1, .slice cp x.2.length cc]) (t := 47) (fr := (0, 0)) (heap_alloc_new w3 _)) (by simp [Value.oneCell']) (by omega) HT4.out.2 HT4.out.1 (by simp; omega) (w3.heap.size + 1) (by simp) ?_; intro gg cap w4 hown4 hgrow hat hlt4; have e0 : w4.cell? ⟨b, 1, none⟩ = some (.slice sp T.length sc) := hgrow.cell (da _) (Ne.symm nb); have ex0 : w4.cell? ⟨w.heap.size, 0, none⟩ = some (.string x.1) := hgrow.cell (dx0 _) (Ne.symm nx); have ex1 : w4.cell? ⟨w.heap.size, 1, none⟩ = some (.slice up x.2.length uc) := hgrow.cell (dx1 _) (Ne.symm nx); have ef : w4.frozen? ⟨b, 1, none⟩ = false := by (rw [World.frozen?_of_block (a := ⟨b, 1, none⟩) (hgrow.block b (by simp; omega) (Ne.symm nb))]; exact ((bcell ((Below.refl w3.heap.size w3).alloc (Nat.le_refl _) _)).2 _ _ (Nat.lt_of_lt_of_le hb2 hz3)).trans (((bcell A3).2 _ _ hb2).trans cf)))
              refine hK.out _ _ ?_ (fun hH4 => ?_)
              · (try dsimp only)
                first | go_keep | (refine ⟨?_, ?_⟩ <;> assumption) | (refine ⟨?_, ?_⟩ <;> (rw [World.cell?_setCell_far _ _ _ _ hfar]; assumption))
              clear hK K hH3
              try simp only [Act.put, List.setIfInBounds_toArray, List.set_cons_zero, List.set_cons_succ]
              refine wpAnyH_take (i := 9) (oi := { dst := some 36, op := Op.nilCheck (Operand.tmp 27), type := 0, pos := "l05_related.go:79", after := #[{ on := 0, ground := Ground.data }, { on := 0, ground := Ground.phase }, { on := 1, ground := Ground.phase }, { on := 2, ground := Ground.phase }, { on := 3, ground := Ground.phase }, { on := 4, ground := Ground.phase }, { on := 5, ground := Ground.phase }, { on := 6, ground := Ground.phase }, { on := 7, ground := Ground.phase }, { on := 8, ground := Ground.phase }], guard := none }) (v := ?va6) rfl (by kernel_rfl) (by kernel_rfl) (by kernel_rfl) (fun _ _ _ h => h) (Or.inl ⟨by rfl, ?hya6⟩) (by assumption) ?resta6
              case hya6 =>
                intro w hSw
                (try dsimp only at hSw)
                go_simp
                try with_reducible rfl
              try simp only [Act.put, List.setIfInBounds_toArray, List.set_cons_zero, List.set_cons_succ]
              refine wpAnyH_take (i := 10) (oi := { dst := some 37, op := Op.fieldAddr 107 (Operand.tmp 36) 1, type := 0, pos := "l05_related.go:79", after := #[{ on := 9, ground := Ground.data }, { on := 0, ground := Ground.phase }, { on := 1, ground := Ground.phase }, { on := 2, ground := Ground.phase }, { on := 3, ground := Ground.phase }, { on := 4, ground := Ground.phase }, { on := 5, ground := Ground.phase }, { on := 6, ground := Ground.phase }, { on := 7, ground := Ground.phase }, { on := 8, ground := Ground.phase }], guard := none }) (v := ?va7) rfl (by kernel_rfl) (by kernel_rfl) (by kernel_rfl) (fun _ _ _ h => h) (Or.inl ⟨by rfl, ?hya7⟩) (by assumption) ?resta7
              case hya7 =>
                intro w hSw
                (try dsimp only at hSw)
                go_simp
                try with_reducible rfl
              try simp only [Act.put, List.setIfInBounds_toArray, List.set_cons_zero, List.set_cons_succ]
              refine wpAnyH_ready (rs := [11]) (by kernel_rfl) (by simp) ?_
              refine AllReadyH.cons (o := { dst := none, op := Op.store 41 (Operand.tmp 37) (Operand.tmp 35), type := 0, pos := "l05_related.go:79", after := #[{ on := 10, ground := Ground.data }, { on := 8, ground := Ground.data }, { on := 8, ground := Ground.chain }, { on := 0, ground := Ground.phase }, { on := 1, ground := Ground.phase }, { on := 2, ground := Ground.phase }, { on := 3, ground := Ground.phase }, { on := 4, ground := Ground.phase }, { on := 5, ground := Ground.phase }, { on := 6, ground := Ground.phase }, { on := 7, ground := Ground.phase }, { on := 8, ground := Ground.phase }], guard := none }) rfl (fun K hK => ?_) AllReadyH.nil
              · skip
                go_simp
                try (go_wp2_with fail)
                refine hK.out _ _ ?_ (fun hH5 => ?_)
                · (try dsimp only)
                  first | go_keep | (refine ⟨?_, ?_⟩ <;> assumption) | (refine ⟨?_, ?_⟩ <;> (rw [World.cell?_setCell_far _ _ _ _ hfar]; assumption))
                clear hK K hH4
                try simp only [Act.put, List.setIfInBounds_toArray, List.set_cons_zero, List.set_cons_succ]
                refine wpAnyH_done (by kernel_rfl) ?_ _
                go_wp2
                go_ret
                have BkF := BookR.push Bk2.out A3 S3.out hx0 hown4 hgrow hat
                have MF : MapIs (w4.setCell ⟨b, 1, none⟩ (.slice (some ⟨gg, 0, none⟩) (T.length + 1) cap)) bm (N + 5) (plTo pl T.length (allD x) (allD x).length) := ((((M2.out.below A3).below ((Below.refl _ _).alloc (Nat.le_refl _) _)).kept hgrow (fun e => (own_ne_map Bk2.out.own M2.out e.symm) rfl)).far (fun e => M2.out.ne c1 e.symm))
                have BF : Below B0 w (w4.setCell ⟨b, 1, none⟩ (.slice (some ⟨gg, 0, none⟩) (T.length + 1) cap)) := Below.setCell (((B2.out.trans (A3.mono (Nat.le_trans hB0w (Nat.le_of_lt z2)))).alloc (Nat.le_trans hB0w (Nat.le_trans (Nat.le_of_lt z2) hz3)) _).grown hgrow (Nat.le_trans hB0w (Nat.le_trans (Nat.le_of_lt z2) (by simp; omega))) (fun j hj => (own_in5 Bk2.out.own hj).1)) Bk2.out.hb _
                exact ⟨.inl ⟨HQ.out, rfl, ⟨_, _, BkF⟩, MF⟩, BF⟩
      · skip
        go_simp
        (go_at_call 184; refine (KC.out _ (Below.drew (Below.refl _ _))).mono ?_; rintro e w3 ⟨cp, cc, rfl, hs3, hb3⟩; have A3 : Below w2.heap.size w2 w3 := after_drew5 hb3; have hz3 : w2.heap.size ≤ w3.heap.size := A3.size; have d0 : w3.cell? ⟨w.heap.size, 0, none⟩ = some (.string x.1) := ((bcell A3).1 _ _ z2).trans m1; have d2 : w3.cell? ⟨w.heap.size, 1, none⟩ = some (.slice up x.2.length uc) := ((bcell A3).1 _ _ z2).trans m2; have d1 : w3.cell? ⟨b, 1, none⟩ = some (.slice sp T.length sc) := ((bcell A3).1 _ _ hb2).trans c1; have S3 : Hid (SliceS w3 w2.heap.size (.slice cp x.2.length cc) x.2.length (atL x.2)) := hs3; have O3 : Hid (w3.ownsRow B0 47 2 (.slice sp T.length sc) T.length (setCs T)) := ownR_below Bk2.out.own A3; have da : ∀ o, (w3.alloc o).cell? ⟨b, 1, none⟩ = some (.slice sp T.length sc) := fun o => ((bcell ((Below.refl w3.heap.size w3).alloc (Nat.le_refl _) o)).1 _ _ (Nat.lt_of_lt_of_le hb2 hz3)).trans d1; have dx0 : ∀ o, (w3.alloc o).cell? ⟨w.heap.size, 0, none⟩ = some (.string x.1) := fun o => ((bcell ((Below.refl w3.heap.size w3).alloc (Nat.le_refl _) o)).1 _ _ (Nat.lt_of_lt_of_le z2 hz3)).trans d0; have dx1 : ∀ o, (w3.alloc o).cell? ⟨w.heap.size, 1, none⟩ = some (.slice up x.2.length uc) := fun o => ((bcell ((Below.refl w3.heap.size w3).alloc (Nat.le_refl _) o)).1 _ _ (Nat.lt_of_lt_of_le z2 hz3)).trans d2; clear hb3 hs3)
        try (go_wp2_with fail)
        refine hK.out _ _ ?_ (fun hH1 => ?_)
        · (try dsimp only)
          first | go_keep | (refine ⟨?_, ?_⟩ <;> assumption) | (refine ⟨?_, ?_⟩ <;> (rw [World.cell?_setCell_far _ _ _ _ hfar]; assumption))
        clear hK K hH0
        try simp only [Act.put, List.setIfInBounds_toArray, List.set_cons_zero, List.set_cons_succ]
        refine wpAnyH_ready (rs := [4, 7]) (by kernel_rfl) (by simp) ?_
        refine AllReadyH.cons (o := { dst := some 31, op := Op.load 41 (Operand.tmp 30), type := 41, pos := "l05_related.go:79", after := #[{ on := 3, ground := Ground.data }], guard := none }) rfl (fun K hK => ?_) (AllReadyH.cons (o := { dst := some 34, op := Op.buildSlice 41 1 #[(0, Operand.tmp 33)], type := 41, pos := "l05_related.go:79", after := #[{ on := 6, ground := Ground.data }], guard := none }) rfl (fun K hK => ?_) AllReadyH.nil)
        · skip
          go_simp
          try (go_wp2_with fail)
          refine hK.out _ _ ?_ (fun hH2 => ?_)
          · (try dsimp only)
            first | go_keep | (refine ⟨?_, ?_⟩ <;> assumption) | (refine ⟨?_, ?_⟩ <;> (rw [World.cell?_setCell_far _ _ _ _ hfar]; assumption))
          clear hK K hH1
          try simp only [Act.put, List.setIfInBounds_toArray, List.set_cons_zero, List.set_cons_succ]
          refine wpAnyH_ready (rs := [7]) (by kernel_rfl) (by simp) ?_
          refine AllReadyH.cons (o := { dst := some 34, op := Op.buildSlice 41 1 #[(0, Operand.tmp 33)], type := 41, pos := "l05_related.go:79", after := #[{ on := 6, ground := Ground.data }], guard := none }) rfl (fun K hK => ?_) AllReadyH.nil
          · skip
            go_simp
            try (go_wp2_with fail)
            refine hK.out _ _ ?_ (fun hH3 => ?_)
            · (try dsimp only)
              first | go_keep | (refine ⟨?_, ?_⟩ <;> assumption) | (refine ⟨?_, ?_⟩ <;> (rw [World.cell?_setCell_far _ _ _ _ hfar]; assumption))
            clear hK K hH2
            try simp only [Act.put, List.setIfInBounds_toArray, List.set_cons_zero, List.set_cons_succ]
            refine wpAnyH_ready (rs := [8]) (by kernel_rfl) (by simp) ?_
            refine AllReadyH.cons (o := { dst := some 35, op := Op.call { callee := Callee.builtin Builtin.append, args := #[Operand.tmp 31, Operand.tmp 34], argTypes := #[41, 41] }, type := 41, pos := "l05_related.go:79", after := #[{ on := 4, ground := Ground.data }, { on := 7, ground := Ground.data }, { on := 6, ground := Ground.chain }], guard := none }) rfl (fun K hK => ?_) AllReadyH.nil
            · skip
              (refine step_append_lies _ (by rfl) _ _ _ (by rfl) B0 47 i0 (.agg #[.string ⟨#[]⟩, .slice none 0 0]) 2 40 Tryd.underlying41 hi hy0 hy1 hy2 rfl (by omega) (.slice sp T.length sc) T.length (setCs T) (by rfl) (O3.out.alloc _) ⟨w3.heap.size, 0, none⟩ 1 1 [.string x.1, .slice cp x.2.length cc] (by rfl) (by rfl) (World.news_of_block (cs := #[.string x.1, .slice cp x.2.length cc]) (t := 47) (fr := (0, 0)) (heap_alloc_new w3 _)) (by simp [Value.oneCell']) (by omega) HT4.out.2 HT4.out.1 (by simp; omega) (w3.heap.size + 1) (by simp) ?_; intro gg cap w4 hown4 hgrow hat hlt4; have e0 : w4.cell? ⟨b, 1, none⟩ = some (.slice sp T.length sc) := hgrow.cell (da _) (Ne.symm nb); have ex0 : w4.cell? ⟨w.heap.size, 0, none⟩ = some (.string x.1) := hgrow.cell (dx0 _) (Ne.symm nx); have ex1 : w4.cell? ⟨w.heap.size, 1, none⟩ = some (.slice up x.2.length uc) := hgrow.cell (dx1 _) (Ne.symm nx); have ef : w4.frozen? ⟨b, 1, none⟩ = false := by (rw [World.frozen?_of_block (a := ⟨b, 1, none⟩) (hgrow.block b (by simp; omega) (Ne.symm nb))]; exact ((bcell ((Below.refl w3.heap.size w3).alloc (Nat.le_refl _) _)).2 _ _ (Nat.lt_of_lt_of_le hb2 hz3)).trans (((bcell A3).2 _ _ hb2).trans cf)))
              refine hK.out _ _ ?_ (fun hH4 => ?_)
              · (try dsimp only)
                first | go_keep | (refine ⟨?_, ?_⟩ <;> assumption) | (refine ⟨?_, ?_⟩ <;> (rw [World.cell?_setCell_far _ _ _ _ hfar]; assumption))
              clear hK K hH3
              try simp only [Act.put, List.setIfInBounds_toArray, List.set_cons_zero, List.set_cons_succ]
              refine wpAnyH_take (i := 9) (oi := { dst := some 36, op := Op.nilCheck (Operand.tmp 27), type := 0, pos := "l05_related.go:79", after := #[{ on := 0, ground := Ground.data }, { on := 0, ground := Ground.phase }, { on := 1, ground := Ground.phase }, { on := 2, ground := Ground.phase }, { on := 3, ground := Ground.phase }, { on := 4, ground := Ground.phase }, { on := 5, ground := Ground.phase }, { on := 6, ground := Ground.phase }, { on := 7, ground := Ground.phase }, { on := 8, ground := Ground.phase }], guard := none }) (v := ?va8) rfl (by kernel_rfl) (by kernel_rfl) (by kernel_rfl) (fun _ _ _ h => h) (Or.inl ⟨by rfl, ?hya8⟩) (by assumption) ?resta8
              case hya8 =>
                intro w hSw
                (try dsimp only at hSw)
                go_simp
                try with_reducible rfl
              try simp only [Act.put, List.setIfInBounds_toArray, List.set_cons_zero, List.set_cons_succ]
              refine wpAnyH_take (i := 10) (oi := { dst := some 37, op := Op.fieldAddr 107 (Operand.tmp 36) 1, type := 0, pos := "l05_related.go:79", after := #[{ on := 9, ground := Ground.data }, { on := 0, ground := Ground.phase }, { on := 1, ground := Ground.phase }, { on := 2, ground := Ground.phase }, { on := 3, ground := Ground.phase }, { on := 4, ground := Ground.phase }, { on := 5, ground := Ground.phase }, { on := 6, ground := Ground.phase }, { on := 7, ground := Ground.phase }, { on := 8, ground := Ground.phase }], guard := none }) (v := ?va9) rfl (by kernel_rfl) (by kernel_rfl) (by kernel_rfl) (fun _ _ _ h => h) (Or.inl ⟨by rfl, ?hya9⟩) (by assumption) ?resta9
              case hya9 =>
                intro w hSw
                (try dsimp only at hSw)
                go_simp
                try with_reducible rfl
              try simp only [Act.put, List.setIfInBounds_toArray, List.set_cons_zero, List.set_cons_succ]
              refine wpAnyH_ready (rs := [11]) (by kernel_rfl) (by simp) ?_
              refine AllReadyH.cons (o := { dst := none, op := Op.store 41 (Operand.tmp 37) (Operand.tmp 35), type := 0, pos := "l05_related.go:79", after := #[{ on := 10, ground := Ground.data }, { on := 8, ground := Ground.data }, { on := 8, ground := Ground.chain }, { on := 0, ground := Ground.phase }, { on := 1, ground := Ground.phase }, { on := 2, ground := Ground.phase }, { on := 3, ground := Ground.phase }, { on := 4, ground := Ground.phase }, { on := 5, ground := Ground.phase }, { on := 6, ground := Ground.phase }, { on := 7, ground := Ground.phase }, { on := 8, ground := Ground.phase }], guard := none }) rfl (fun K hK => ?_) AllReadyH.nil
              · skip
                go_simp
                try (go_wp2_with fail)
                refine hK.out _ _ ?_ (fun hH5 => ?_)
                · (try dsimp only)
                  first | go_keep | (refine ⟨?_, ?_⟩ <;> assumption) | (refine ⟨?_, ?_⟩ <;> (rw [World.cell?_setCell_far _ _ _ _ hfar]; assumption))
                clear hK K hH4
                try simp only [Act.put, List.setIfInBounds_toArray, List.set_cons_zero, List.set_cons_succ]
                refine wpAnyH_done (by kernel_rfl) ?_ _
                go_wp2
                go_ret
                have BkF := BookR.push Bk2.out A3 S3.out hx0 hown4 hgrow hat
                have MF : MapIs (w4.setCell ⟨b, 1, none⟩ (.slice (some ⟨gg, 0, none⟩) (T.length + 1) cap)) bm (N + 5) (plTo pl T.length (allD x) (allD x).length) := ((((M2.out.below A3).below ((Below.refl _ _).alloc (Nat.le_refl _) _)).kept hgrow (fun e => (own_ne_map Bk2.out.own M2.out e.symm) rfl)).far (fun e => M2.out.ne c1 e.symm))
                have BF : Below B0 w (w4.setCell ⟨b, 1, none⟩ (.slice (some ⟨gg, 0, none⟩) (T.length + 1) cap)) := Below.setCell (((B2.out.trans (A3.mono (Nat.le_trans hB0w (Nat.le_of_lt z2)))).alloc (Nat.le_trans hB0w (Nat.le_trans (Nat.le_of_lt z2) hz3)) _).grown hgrow (Nat.le_trans hB0w (Nat.le_trans (Nat.le_of_lt z2) (by simp; omega))) (fun j hj => (own_in5 Bk2.out.own hj).1)) Bk2.out.hb _
                exact ⟨.inl ⟨HQ.out, rfl, ⟨_, _, BkF⟩, MF⟩, BF⟩
        · skip
          go_simp
          try (go_wp2_with fail)
          refine hK.out _ _ ?_ (fun hH2 => ?_)
          · (try dsimp only)
            first | go_keep | (refine ⟨?_, ?_⟩ <;> assumption) | (refine ⟨?_, ?_⟩ <;> (rw [World.cell?_setCell_far _ _ _ _ hfar]; assumption))
          clear hK K hH1
          try simp only [Act.put, List.setIfInBounds_toArray, List.set_cons_zero, List.set_cons_succ]
          refine wpAnyH_ready (rs := [4]) (by kernel_rfl) (by simp) ?_
          refine AllReadyH.cons (o := { dst := some 31, op := Op.load 41 (Operand.tmp 30), type := 41, pos := "l05_related.go:79", after := #[{ on := 3, ground := Ground.data }], guard := none }) rfl (fun K hK => ?_) AllReadyH.nil
          · skip
            go_simp
            try (go_wp2_with fail)
            refine hK.out _ _ ?_ (fun hH3 => ?_)
            · (try dsimp only)
              first | go_keep | (refine ⟨?_, ?_⟩ <;> assumption) | (refine ⟨?_, ?_⟩ <;> (rw [World.cell?_setCell_far _ _ _ _ hfar]; assumption))
            clear hK K hH2
            try simp only [Act.put, List.setIfInBounds_toArray, List.set_cons_zero, List.set_cons_succ]
            refine wpAnyH_ready (rs := [8]) (by kernel_rfl) (by simp) ?_
            refine AllReadyH.cons (o := { dst := some 35, op := Op.call { callee := Callee.builtin Builtin.append, args := #[Operand.tmp 31, Operand.tmp 34], argTypes := #[41, 41] }, type := 41, pos := "l05_related.go:79", after := #[{ on := 4, ground := Ground.data }, { on := 7, ground := Ground.data }, { on := 6, ground := Ground.chain }], guard := none }) rfl (fun K hK => ?_) AllReadyH.nil
            · skip
              (refine step_append_lies _ (by rfl) _ _ _ (by rfl) B0 47 i0 (.agg #[.string ⟨#[]⟩, .slice none 0 0]) 2 40 Tryd.underlying41 hi hy0 hy1 hy2 rfl (by omega) (.slice sp T.length sc) T.length (setCs T) (by rfl) (O3.out.alloc _) ⟨w3.heap.size, 0, none⟩ 1 1 [.string x.1, .slice cp x.2.length cc] (by rfl) (by rfl) (World.news_of_block (cs := #[.string x.1, .slice cp x.2.length cc]) (t := 47) (fr := (0, 0)) (heap_alloc_new w3 _)) (by simp [Value.oneCell']) (by omega) HT4.out.2 HT4.out.1 (by simp; omega) (w3.heap.size + 1) (by simp) ?_; intro gg cap w4 hown4 hgrow hat hlt4; have e0 : w4.cell? ⟨b, 1, none⟩ = some (.slice sp T.length sc) := hgrow.cell (da _) (Ne.symm nb); have ex0 : w4.cell? ⟨w.heap.size, 0, none⟩ = some (.string x.1) := hgrow.cell (dx0 _) (Ne.symm nx); have ex1 : w4.cell? ⟨w.heap.size, 1, none⟩ = some (.slice up x.2.length uc) := hgrow.cell (dx1 _) (Ne.symm nx); have ef : w4.frozen? ⟨b, 1, none⟩ = false := by (rw [World.frozen?_of_block (a := ⟨b, 1, none⟩) (hgrow.block b (by simp; omega) (Ne.symm nb))]; exact ((bcell ((Below.refl w3.heap.size w3).alloc (Nat.le_refl _) _)).2 _ _ (Nat.lt_of_lt_of_le hb2 hz3)).trans (((bcell A3).2 _ _ hb2).trans cf)))
              refine hK.out _ _ ?_ (fun hH4 => ?_)
              · (try dsimp only)
                first | go_keep | (refine ⟨?_, ?_⟩ <;> assumption) | (refine ⟨?_, ?_⟩ <;> (rw [World.cell?_setCell_far _ _ _ _ hfar]; assumption))
              clear hK K hH3
              try simp only [Act.put, List.setIfInBounds_toArray, List.set_cons_zero, List.set_cons_succ]
              refine wpAnyH_take (i := 9) (oi := { dst := some 36, op := Op.nilCheck (Operand.tmp 27), type := 0, pos := "l05_related.go:79", after := #[{ on := 0, ground := Ground.data }, { on := 0, ground := Ground.phase }, { on := 1, ground := Ground.phase }, { on := 2, ground := Ground.phase }, { on := 3, ground := Ground.phase }, { on := 4, ground := Ground.phase }, { on := 5, ground := Ground.phase }, { on := 6, ground := Ground.phase }, { on := 7, ground := Ground.phase }, { on := 8, ground := Ground.phase }], guard := none }) (v := ?va10) rfl (by kernel_rfl) (by kernel_rfl) (by kernel_rfl) (fun _ _ _ h => h) (Or.inl ⟨by rfl, ?hya10⟩) (by assumption) ?resta10
              case hya10 =>
                intro w hSw
                (try dsimp only at hSw)
                go_simp
                try with_reducible rfl
              try simp only [Act.put, List.setIfInBounds_toArray, List.set_cons_zero, List.set_cons_succ]
              refine wpAnyH_take (i := 10) (oi := { dst := some 37, op := Op.fieldAddr 107 (Operand.tmp 36) 1, type := 0, pos := "l05_related.go:79", after := #[{ on := 9, ground := Ground.data }, { on := 0, ground := Ground.phase }, { on := 1, ground := Ground.phase }, { on := 2, ground := Ground.phase }, { on := 3, ground := Ground.phase }, { on := 4, ground := Ground.phase }, { on := 5, ground := Ground.phase }, { on := 6, ground := Ground.phase }, { on := 7, ground := Ground.phase }, { on := 8, ground := Ground.phase }], guard := none }) (v := ?va11) rfl (by kernel_rfl) (by kernel_rfl) (by kernel_rfl) (fun _ _ _ h => h) (Or.inl ⟨by rfl, ?hya11⟩) (by assumption) ?resta11
              case hya11 =>
                intro w hSw
                (try dsimp only at hSw)
                go_simp
                try with_reducible rfl
              try simp only [Act.put, List.setIfInBounds_toArray, List.set_cons_zero, List.set_cons_succ]
              refine wpAnyH_ready (rs := [11]) (by kernel_rfl) (by simp) ?_
              refine AllReadyH.cons (o := { dst := none, op := Op.store 41 (Operand.tmp 37) (Operand.tmp 35), type := 0, pos := "l05_related.go:79", after := #[{ on := 10, ground := Ground.data }, { on := 8, ground := Ground.data }, { on := 8, ground := Ground.chain }, { on := 0, ground := Ground.phase }, { on := 1, ground := Ground.phase }, { on := 2, ground := Ground.phase }, { on := 3, ground := Ground.phase }, { on := 4, ground := Ground.phase }, { on := 5, ground := Ground.phase }, { on := 6, ground := Ground.phase }, { on := 7, ground := Ground.phase }, { on := 8, ground := Ground.phase }], guard := none }) rfl (fun K hK => ?_) AllReadyH.nil
              · skip
                go_simp
                try (go_wp2_with fail)
                refine hK.out _ _ ?_ (fun hH5 => ?_)
                · (try dsimp only)
                  first | go_keep | (refine ⟨?_, ?_⟩ <;> assumption) | (refine ⟨?_, ?_⟩ <;> (rw [World.cell?_setCell_far _ _ _ _ hfar]; assumption))
                clear hK K hH4
                try simp only [Act.put, List.setIfInBounds_toArray, List.set_cons_zero, List.set_cons_succ]
                refine wpAnyH_done (by kernel_rfl) ?_ _
                go_wp2
                go_ret
                have BkF := BookR.push Bk2.out A3 S3.out hx0 hown4 hgrow hat
                have MF : MapIs (w4.setCell ⟨b, 1, none⟩ (.slice (some ⟨gg, 0, none⟩) (T.length + 1) cap)) bm (N + 5) (plTo pl T.length (allD x) (allD x).length) := ((((M2.out.below A3).below ((Below.refl _ _).alloc (Nat.le_refl _) _)).kept hgrow (fun e => (own_ne_map Bk2.out.own M2.out e.symm) rfl)).far (fun e => M2.out.ne c1 e.symm))
                have BF : Below B0 w (w4.setCell ⟨b, 1, none⟩ (.slice (some ⟨gg, 0, none⟩) (T.length + 1) cap)) := Below.setCell (((B2.out.trans (A3.mono (Nat.le_trans hB0w (Nat.le_of_lt z2)))).alloc (Nat.le_trans hB0w (Nat.le_trans (Nat.le_of_lt z2) hz3)) _).grown hgrow (Nat.le_trans hB0w (Nat.le_trans (Nat.le_of_lt z2) (by simp; omega))) (fun j hj => (own_in5 Bk2.out.own hj).1)) Bk2.out.hb _
                exact ⟨.inl ⟨HQ.out, rfl, ⟨_, _, BkF⟩, MF⟩, BF⟩
end Go.Proofs.YtfoekelhcmlagaaDoor

/- Texts put in their places, one by one, are the texts sorted and each kept once. -/
namespace Go.Proofs.YtfoekelhcmlagaaDoor
/-- the model's order of texts is that of their bytes -/
theorem less_iff : ∀ (x y : List UInt8), Op.bytesLess x y = true ↔ x < y
  | [], [] => by simp [Op.bytesLess]
  | _ :: _, [] => by simp [Op.bytesLess]
  | [], _ :: _ => by simp [Op.bytesLess]
  | a :: x, b :: y => by
    rw [Op.bytesLess, List.cons_lt_cons_iff, Bool.or_eq_true, Bool.and_eq_true, less_iff x y, decide_eq_true_eq, beq_iff_eq]
theorem lt_tri (x y : List UInt8) : x < y ∨ x = y ∨ y < x := by
  by_cases h : x < y
  · exact .inl h
  · by_cases h2 : y < x
    · exact .inr (.inr h2)
    · exact .inr (.inl (List.le_antisymm (List.not_lt.1 h2) (List.not_lt.1 h)))
/-- rising, none twice -/
def Rising (L : List (List UInt8)) : Prop := L.Pairwise (· < ·)
theorem rising_eq : ∀ {A B : List (List UInt8)}, Rising A → Rising B → (∀ x, x ∈ A ↔ x ∈ B) → A = B
  | [], [], _, _, _ => rfl
  | [], b :: B, _, _, h => absurd ((h b).2 (by simp)) (by simp)
  | a :: A, [], _, _, h => absurd ((h a).1 (by simp)) (by simp)
  | a :: A, b :: B, ha, hb, h => by
    obtain ⟨ha1, ha2⟩ := List.pairwise_cons.1 ha
    obtain ⟨hb1, hb2⟩ := List.pairwise_cons.1 hb
    have e : a = b := by
      rcases lt_tri a b with c | c | c
      · rcases List.mem_cons.1 ((h a).1 (by simp)) with e | e
        · exact e
        · exact absurd (List.lt_trans (hb1 a e) c) (List.lt_irrefl b)
      · exact c
      · rcases List.mem_cons.1 ((h b).2 (by simp)) with e | e
        · exact e.symm
        · exact absurd (List.lt_trans (ha1 b e) c) (List.lt_irrefl a)
    subst e
    congr 1
    refine rising_eq ha2 hb2 fun x => ?_
    have hx := h x
    rw [List.mem_cons, List.mem_cons] at hx
    constructor
    · intro hm
      rcases hx.1 (.inr hm) with e | e
      · subst e; exact absurd (ha1 x hm) (List.lt_irrefl x)
      · exact e
    · intro hm
      rcases hx.2 (.inr hm) with e | e
      · subst e; exact absurd (hb1 x hm) (List.lt_irrefl x)
      · exact e
/-- a text put among others, in its place -/
def putT : List (List UInt8) → List UInt8 → List (List UInt8)
  | [], t => [t]
  | x :: l, t => if x < t then x :: putT l t else if x = t then x :: l else t :: x :: l
theorem putT_mem (t x : List UInt8) : ∀ L : List (List UInt8), x ∈ putT L t ↔ x ∈ L ∨ x = t
  | [] => by simp [putT]
  | y :: l => by
    rw [putT]
    split
    · rw [List.mem_cons, putT_mem t x l, List.mem_cons]
      constructor
      · rintro (h | h | h) <;> simp [h]
      · rintro ((h | h) | h) <;> simp [h]
    · split
      · rename_i e; subst e; simp
        intro h; exact .inl h
      · simp only [List.mem_cons]
        constructor
        · rintro (h | h) <;> simp [h]
        · rintro (h | h) <;> simp [h]
theorem putT_rising (t : List UInt8) : ∀ {L : List (List UInt8)}, Rising L → Rising (putT L t)
  | [], _ => by simp [putT, Rising]
  | y :: l, h => by
    obtain ⟨h1, h2⟩ := List.pairwise_cons.1 h
    rw [putT]
    split
    · rename_i hlt
      refine List.pairwise_cons.2 ⟨fun z hz => ?_, putT_rising t h2⟩
      rcases (putT_mem t z l).1 hz with e | e
      · exact h1 z e
      · rw [e]; exact hlt
    · rename_i hlt
      split
      · exact h
      · rename_i hne
        have hty : t < y := by
          rcases lt_tri t y with c | c | c
          · exact c
          · exact absurd c.symm hne
          · exact absurd c hlt
        refine List.pairwise_cons.2 ⟨fun z hz => ?_, h⟩
        rcases List.mem_cons.1 hz with e | e
        · rw [e]; exact hty
        · exact List.lt_trans hty (h1 z e)
theorem puts_rising : ∀ (K : List (List UInt8)) {L : List (List UInt8)}, Rising L → Rising (K.foldl putT L)
  | [], _, h => h
  | t :: K, _, h => puts_rising K (putT_rising t h)
theorem puts_mem (x : List UInt8) : ∀ (K L : List (List UInt8)), x ∈ K.foldl putT L ↔ x ∈ L ∨ x ∈ K
  | [], L => by simp
  | t :: K, L => by
    rw [List.foldl_cons, puts_mem x K, putT_mem, List.mem_cons]
    constructor
    · rintro ((h | h) | h) <;> simp [h]
    · rintro (h | h | h) <;> simp [h]
/-- where a text is put, and how -/
theorem putT_at (t : List UInt8) : ∀ (L : List (List UInt8)) (k : Nat), k ≤ L.length → (∀ j (h : j < L.length), j < k → L[j] < t) → (∀ h : k < L.length, ¬ L[k] < t) →
    putT L t = if ∃ h : k < L.length, L[k] = t then L else L.take k ++ t :: L.drop k
  | [], k, hk, _, _ => by
    obtain rfl : k = 0 := by simpa using hk
    rw [if_neg (by rintro ⟨h, _⟩; exact absurd h (by simp))]
    rfl
  | x :: l, 0, hk, _, h2 => by
    have hx : ¬ x < t := h2 (by simp)
    rw [putT, if_neg hx]
    by_cases e : x = t
    · rw [if_pos e, if_pos ⟨by simp, e⟩]
    · rw [if_neg e, if_neg (by rintro ⟨_, h⟩; exact e h)]; rfl
  | x :: l, k + 1, hk, h1, h2 => by
    have hx : x < t := h1 0 (by simp) (by omega)
    rw [putT, if_pos hx, putT_at t l k (by simpa using hk) (fun j h hj => h1 (j + 1) (by simpa using h) (by omega)) (fun h => h2 (by simpa using h))]
    by_cases e : ∃ h : k < l.length, l[k] = t
    · rw [if_pos e, if_pos (by obtain ⟨h, e⟩ := e; exact ⟨by simpa using h, e⟩)]
    · rw [if_neg e, if_neg (by rintro ⟨h, e2⟩; exact e ⟨by simpa using h, e2⟩)]; rfl
theorem le_lt {a b c : List UInt8} (h : ¬ b < a) (h2 : b < c) : a < c := by
  rcases lt_tri a b with e | e | e
  · exact List.lt_trans e h2
  · rw [e]; exact h2
  · exact absurd e h
/-- what stays of rising texts is rising, none twice, and they are the same -/
theorem compact_upto (d : Array (List UInt8)) (hd : ∀ j, j + 1 < d.size → ¬ d[j + 1]! < d[j]!) : ∀ m, m ≤ d.size →
    Rising (Lib.compactUpTo d m) ∧ (∀ x, x ∈ Lib.compactUpTo d m ↔ ∃ j, j < m ∧ d[j]! = x) ∧ (∀ x, x ∈ Lib.compactUpTo d m → ¬ d[m - 1]! < x)
  | 0, _ => by simp [Lib.compactUpTo, Rising]
  | m + 1, hm => by
    obtain ⟨h1, h2, h3⟩ := compact_upto d hd m (by omega)
    rw [Lib.compactUpTo_succ]
    by_cases hk : Lib.keeps d m = true
    · rw [if_pos hk]
      have hlt : ∀ x, x ∈ Lib.compactUpTo d m → x < d[m]! := by
        intro x hx
        obtain ⟨j, hj, -⟩ := (h2 x).1 hx
        have hm0 : ¬ m = 0 := by omega
        have hne : d[m]! ≠ d[m - 1]! := by
          have := hk
          unfold Lib.keeps at this
          rw [decide_eq_true_eq] at this
          exact this.resolve_left hm0
        have hle := hd (m - 1) (by omega)
        rw [show m - 1 + 1 = m by omega] at hle
        refine le_lt (h3 x hx) ?_
        rcases lt_tri d[m - 1]! d[m]! with e | e | e
        · exact e
        · exact absurd e.symm hne
        · exact absurd e hle
      refine ⟨?_, fun x => ?_, fun x hx => ?_⟩
      · unfold Rising
        rw [List.pairwise_append]
        refine ⟨h1, by simp, fun a ha b hb => ?_⟩
        rw [List.mem_singleton] at hb
        rw [hb]; exact hlt a ha
      · rw [List.mem_append, h2, List.mem_singleton]
        constructor
        · rintro (⟨j, hj, e⟩ | e)
          · exact ⟨j, by omega, e⟩
          · exact ⟨m, by omega, e.symm⟩
        · rintro ⟨j, hj, e⟩
          by_cases hjm : j = m
          · subst hjm; exact .inr e.symm
          · exact .inl ⟨j, by omega, e⟩
      · rw [List.mem_append, List.mem_singleton] at hx
        rw [Nat.add_sub_cancel]
        rcases hx with hx | hx
        · exact fun h => List.lt_irrefl x (List.lt_trans (hlt x hx) h)
        · rw [hx]; exact List.lt_irrefl _
    · rw [if_neg hk, List.append_nil]
      have hm0 : ¬ m = 0 := fun e => hk (by subst e; simp [Lib.keeps])
      have he : d[m]! = d[m - 1]! := by
        by_cases e : d[m]! = d[m - 1]!
        · exact e
        · exact absurd (Lib.keeps_pos e) hk
      refine ⟨h1, fun x => ?_, fun x hx => ?_⟩
      · rw [h2]
        constructor
        · rintro ⟨j, hj, e⟩; exact ⟨j, by omega, e⟩
        · rintro ⟨j, hj, e⟩
          by_cases hjm : j = m
          · subst hjm; exact ⟨j - 1, by omega, by rw [← e, he]⟩
          · exact ⟨j, by omega, e⟩
      · rw [Nat.add_sub_cancel, he]; exact h3 x hx
theorem compact_sorted (zs : List (List UInt8)) (h : zs.Pairwise (fun a b => ¬ b < a)) : Rising (Lib.compact zs) ∧ ∀ x, x ∈ Lib.compact zs ↔ x ∈ zs := by
  have hd : ∀ j, j + 1 < zs.toArray.size → ¬ zs.toArray[j + 1]! < zs.toArray[j]! := by
    intro j hj
    have hj2 : j + 1 < zs.length := by simpa using hj
    have := List.pairwise_iff_getElem.1 h j (j + 1) (by omega) hj2 (by omega)
    simpa [getElem!_pos, hj2, show j < zs.length by omega] using this
  obtain ⟨h1, h2, _⟩ := compact_upto zs.toArray hd zs.length (by simp)
  refine ⟨h1, fun x => ?_⟩
  unfold Lib.compact
  rw [h2]
  constructor
  · rintro ⟨j, hj, e⟩
    rw [← e]
    simp [getElem!_pos, hj]
  · intro hx
    obtain ⟨j, hj, e⟩ := List.getElem_of_mem hx
    exact ⟨j, hj, by simp [getElem!_pos, hj, e]⟩
/-- texts sorted and each kept once are those put one by one -/
theorem sorted_puts (K : List (List UInt8)) : Lib.compact (K.mergeSort fun x y => decide (x ≤ y)) = K.foldl putT [] := by
  have hp : (K.mergeSort fun x y => decide (x ≤ y)).Pairwise (fun a b => ¬ b < a) := by
    have := List.pairwise_mergeSort (le := fun x y : List UInt8 => decide (x ≤ y)) (fun a b c h1 h2 => by
      rw [decide_eq_true_eq] at *; exact List.le_trans h1 h2) (fun a b => by
      rw [Bool.or_eq_true, decide_eq_true_eq, decide_eq_true_eq]; exact List.le_total a b) K
    refine this.imp ?_
    intro a b h
    rw [decide_eq_true_eq] at h
    exact List.not_lt.2 h
  obtain ⟨h1, h2⟩ := compact_sorted _ hp
  refine rising_eq h1 (puts_rising K (by simp [Rising])) fun x => ?_
  rw [h2, puts_mem, (List.mergeSort_perm K _).mem_iff]
  simp
end Go.Proofs.YtfoekelhcmlagaaDoor

/- A book of sets is to be had just of right sets: plain facts. -/
namespace Go.Proofs.YtfoekelhcmlagaaDoor
open Go.Maps

/-- where the domains of the first k sets stand -/
def plOf (L : List SetL) : Nat → ByteArray → Option Nat
  | 0 => fun _ => none
  | k + 1 => plTo (plOf L k) k (allD (atS L k)) (allD (atS L k)).length
theorem hasB_iff (x : SetL) (d : ByteArray) : hasB x d = true ↔ ∃ j, j < (allD x).length ∧ (d.toList == (atL (allD x) j).toList) = true := by
  constructor
  · intro h
    unfold hasB at h
    rw [List.any_eq_true] at h
    obtain ⟨y, hy, e⟩ := h
    obtain ⟨k, hk, rfl⟩ := List.mem_iff_getElem.1 hy
    refine ⟨k, hk, ?_⟩
    have e1 : atL (allD x) k = (allD x)[k] := by simp [atL, hk]
    rw [e1, beq_iff_eq]
    rw [beq_iff_eq] at e
    exact e.symm
  · rintro ⟨j, hj, e⟩
    refine hasB_at j hj ?_
    rw [beq_iff_eq] at e ⊢
    exact e.symm
theorem plTo_some {pl : ByteArray → Option Nat} {v : Nat} {D : List ByteArray} {k : Nat} {x : ByteArray} : (plTo pl v D k x).isSome = true ↔ (∃ j, j < k ∧ (x.toList == (atL D j).toList) = true) ∨ (pl x).isSome = true := by
  by_cases he : ∃ j, j < k ∧ (x.toList == (atL D j).toList) = true
  · obtain ⟨j, hj, e⟩ := he
    rw [plTo_in pl v D x k j hj e]
    exact ⟨fun _ => .inl ⟨j, hj, e⟩, fun _ => rfl⟩
  · rw [plTo_eq pl v D x k (fun j hj => by
      cases e : (x.toList == (atL D j).toList) with
      | false => rfl
      | true => exact absurd ⟨j, hj, e⟩ he)]
    exact ⟨.inr, fun h => h.resolve_left he⟩
theorem plOf_some (L : List SetL) (x : ByteArray) : ∀ k, (plOf L k x).isSome = true ↔ ∃ i, i < k ∧ hasB (atS L i) x = true
  | 0 => ⟨fun h => (by cases h), fun ⟨_, h, _⟩ => absurd h (by omega)⟩
  | k + 1 => by
    show (plTo (plOf L k) k (allD (atS L k)) (allD (atS L k)).length x).isSome = true ↔ _
    rw [plTo_some, plOf_some L x k]
    constructor
    · rintro (h | ⟨i, hi, h⟩)
      · exact ⟨k, by omega, (hasB_iff _ _).2 h⟩
      · exact ⟨i, by omega, h⟩
    · rintro ⟨i, hi, h⟩
      by_cases e : i = k
      · subst e; exact .inl ((hasB_iff _ _).1 h)
      · exact .inr ⟨i, by omega, h⟩
theorem isSome_false {o : Option Nat} (h : ¬ o.isSome = true) : o = none := by
  cases o with
  | none => rfl
  | some v => exact absurd rfl h
theorem newB_iff (L : List SetL) (k : Nat) (D : List ByteArray) : newB (plOf L k) k D = true ↔ (∀ j, j < D.length → ∀ i, i < k → hasB (atS L i) (atL D j) = false) ∧ ∀ j, j < D.length → ∀ i, i < j → ((atL D j).toList == (atL D i).toList) = false := by
  unfold newB
  rw [decide_eq_true_eq]
  constructor
  · intro h
    have h' : ∀ j, j < D.length → ¬ (plTo (plOf L k) k D j (atL D j)).isSome = true := fun j hj => by rw [h j hj]; simp
    refine ⟨fun j hj i hi => ?_, fun j hj i hi => ?_⟩
    · cases e : hasB (atS L i) (atL D j) with
      | false => rfl
      | true => exact absurd (plTo_some.2 (.inr ((plOf_some L _ k).2 ⟨i, hi, e⟩))) (h' j hj)
    · cases e : ((atL D j).toList == (atL D i).toList) with
      | false => rfl
      | true => exact absurd (plTo_some.2 (.inl ⟨i, hi, e⟩)) (h' j hj)
  · rintro ⟨h1, h2⟩ j hj
    apply isSome_false
    intro h
    rcases plTo_some.1 h with ⟨i, hi, e⟩ | h
    · rw [h2 j hj i hi] at e; cases e
    · obtain ⟨i, hi, e⟩ := (plOf_some L _ k).1 h
      rw [h1 j hj i hi] at e; cases e
theorem apartB_iff (L : List SetL) (x : SetL) (k : Nat) (hk : k ≤ L.length) : apartB (L.take k) x = true ↔ ∀ j, j < (allD x).length → ∀ i, i < k → hasB (atS L i) (atL (allD x) j) = false := by
  have hl : (L.take k).length = k := by rw [List.length_take]; omega
  have ht : ∀ i, i < k → atS (L.take k) i = atS L i := fun i hi => by
    unfold atS
    rw [List.getD_eq_getElem?_getD, List.getD_eq_getElem?_getD, List.getElem?_take_of_lt hi]
  constructor
  · intro h j hj i hi
    cases e : hasB (atS L i) (atL (allD x) j) with
    | false => rfl
    | true =>
      rw [apartB_at i j (by omega) hj (by rw [ht i hi]; exact e)] at h; cases h
  · intro h
    refine apartB_all (fun i hi j hj => ?_)
    rw [hl] at hi
    rw [ht i hi]; exact h j hj i hi
theorem rising_ne {M : List ByteArray} (h : ∀ i, i < M.length → i = 0 ∨ Op.bytesLess (atL M (i - 1)).toList (atL M i).toList = true) : ∀ j i, i < j → j < M.length → Op.bytesLess (atL M i).toList (atL M j).toList = true
  | 0, _, h1, _ => absurd h1 (by omega)
  | j + 1, i, h1, h2 => by
    have hs := (h (j + 1) h2).resolve_left (by omega)
    rw [Nat.add_sub_cancel] at hs
    by_cases e : i = j
    · subst e; exact hs
    · have ih := rising_ne h j i (by omega) (by omega)
      rw [less_iff] at hs ih ⊢
      exact List.lt_trans ih hs
theorem less_ne {a b : ByteArray} (h : Op.bytesLess a.toList b.toList = true) : (b.toList == a.toList) = false := by
  rw [beq_eq_false_iff_ne]
  intro e
  rw [less_iff, e] at h
  exact List.lt_irrefl _ h
theorem atD_succ (p : ByteArray) (M : List ByteArray) (j : Nat) : atL (allD (p, M)) (j + 1) = atL M j := by simp [atL, allD]
/-- a set may come in just if it is right by itself, and apart from those ahead -/
theorem add_right (n : Nat) (f : Nat → ByteArray) (L : List SetL) (k : Nat) (hk : k ≤ L.length) (x : SetL) (hr : rulesB n f = true) : (domsB n f x && newB (plOf L k) k (allD x)) = (setRB n f x && apartB (L.take k) x) := by
  obtain ⟨p, M⟩ := x
  have hd : ∀ s, domR n f s = domB n f s := fun s => by unfold domR; rw [hr]; rfl
  rw [Bool.eq_iff_iff, Bool.and_eq_true, Bool.and_eq_true, newB_iff, apartB_iff L _ k hk]
  constructor
  · rintro ⟨h1, h2, h3⟩
    obtain ⟨d0, d1, d2, d3⟩ := domsB_parts h1
    refine ⟨?_, h2⟩
    unfold setRB
    rw [hd] at d0
    rw [d0, decide_eq_true d1, decide_eq_true d2, decide_eq_true]
    · rfl
    · intro i hi
      have h := d3 i hi
      unfold okN at h
      rw [hd, Bool.and_eq_true] at h
      have hne := h3 (i + 1) (by show i + 1 < M.length + 1; exact Nat.succ_lt_succ hi) 0 (by omega)
      rw [atD_succ] at hne
      unfold okM
      rw [h.1, h.2]
      have e0 : atL (allD (p, M)) 0 = p := rfl
      rw [e0] at hne
      show (true && !((atL M i).toList == p.toList) && true) = true
      rw [hne]; rfl
  · rintro ⟨h1, h2⟩
    unfold setRB at h1
    rw [Bool.and_eq_true, Bool.and_eq_true, Bool.and_eq_true, decide_eq_true_eq, decide_eq_true_eq, decide_eq_true_eq] at h1
    obtain ⟨⟨⟨d0, d1⟩, d2⟩, d3⟩ := h1
    have hm : ∀ i, i < M.length → domB n f (atL M i) = true ∧ ((atL M i).toList == p.toList) = false ∧ (i == 0 || Op.bytesLess (atL M (i - 1)).toList (atL M i).toList) = true := fun i hi => by
      have h := d3 i hi
      unfold okM at h
      rw [Bool.and_eq_true, Bool.and_eq_true] at h
      exact ⟨h.1.1, by have := h.1.2; simpa using this, h.2⟩
    refine ⟨domsB_all (by rw [hd]; exact d0) d1 d2 (fun i hi => ?_), h2, fun j hj i hi => ?_⟩
    · unfold okN
      rw [hd, (hm i hi).1, (hm i hi).2.2]; rfl
    · cases j with
      | zero => omega
      | succ j =>
        have hj' : j < M.length := by have : (allD (p, M)).length = M.length + 1 := rfl; omega
        rw [atD_succ]
        cases i with
        | zero => exact (hm j hj').2.1
        | succ i =>
          rw [atD_succ]
          refine less_ne (rising_ne (fun i hi => ?_) j i (by omega) hj')
          have := (hm i hi).2.2
          rw [Bool.or_eq_true, beq_iff_eq] at this
          exact this
/-- the set at a place comes into the book -/
def okB (n : Nat) (f : Nat → ByteArray) (L : List SetL) (k : Nat) : Bool := (k == 0 || Op.bytesLess (atS L (k - 1)).1.toList (atS L k).1.toList) && addB n f (plOf L k) k (atS L k)
def bookB (n : Nat) (f : Nat → ByteArray) (L : List SetL) : Bool := rulesB n f && decide (∀ k, k < L.length → okB n f L k = true)
theorem bookB_sets (n : Nat) (f : Nat → ByteArray) (L : List SetL) : bookB n f L = setsB n f L := by
  unfold bookB setsB
  cases hr : rulesB n f with
  | false => rfl
  | true =>
    rw [Bool.true_and, Bool.true_and, Bool.eq_iff_iff, Bool.and_eq_true, decide_eq_true_eq, decide_eq_true_eq, decide_eq_true_eq]
    have key : ∀ k, k < L.length → (okB n f L k = true ↔ k ≠ 6 ∧ okS n f L k = true) := fun k hk => by
      have h := add_right n f L k (by omega) (atS L k) hr
      unfold okB okS addB
      rw [Bool.and_assoc, h]
      by_cases h6 : k = 6
      · rw [decide_eq_true h6]; simp [h6]
      · rw [decide_eq_false h6]
        simp only [Bool.not_false, Bool.true_and, Bool.and_eq_true, ne_eq, h6, not_false_eq_true, true_and]
        constructor
        · rintro ⟨a, b, c⟩; exact ⟨⟨b, a⟩, c⟩
        · rintro ⟨⟨b, a⟩, c⟩; exact ⟨a, b, c⟩
    constructor
    · intro h
      refine ⟨?_, fun i hi => ((key i hi).1 (h i hi)).2⟩
      by_cases h6 : 6 < L.length
      · exact absurd rfl ((key 6 h6).1 (h 6 h6)).1
      · omega
    · rintro ⟨h6, h⟩ k hk
      exact (key k hk).2 ⟨by omega, h k hk⟩
end Go.Proofs.YtfoekelhcmlagaaDoor

/- The walk of the program's bookOf. -/
namespace Go.Proofs.YtfoekelhcmlagaaDoor
open Go.RowKit Go.Maps

/-- what is there already, stored once more -/
theorem setCell_same5 {w : World} {b o : Nat} {v : Value} (h : w.cell? ⟨b, o, none⟩ = some v) : w.setCell ⟨b, o, none⟩ v = w := by
  have hb : b < w.heap.size := by
    by_cases hb : b < w.heap.size
    · exact hb
    · exfalso
      simp [World.cell?, Array.getElem?_eq_none (show w.heap.size ≤ b by omega)] at h
  have hs : (w.setCell ⟨b, o, none⟩ v).heap = w.heap := by
    refine Array.ext (by simp [World.setCell]) (fun i h1 h2 => ?_)
    by_cases e : i = b
    · subst e
      unfold World.cell? at h
      rw [Array.getElem?_eq_getElem hb] at h
      simp only [World.setCell, Array.getElem_modify, if_true]
      cases hc : w.heap[i] with
      | cells c t fz =>
        rw [hc] at h
        simp only [Option.isSome_none, Bool.false_eq_true, if_false] at h ⊢
        congr 1
        refine Array.ext (by simp) (fun k k1 k2 => ?_)
        rw [Array.getElem_setIfInBounds]
        split
        · rename_i e2
          subst e2
          have h3 : c[o]? = some v := by simpa using h
          rw [Array.getElem?_eq_getElem (by simpa using k1)] at h3
          exact (Option.some.inj h3).symm
        · rfl
      | _ => rfl
    · simp only [World.setCell, Array.getElem_modify, if_neg (Ne.symm e)]
  cases w
  simp only [World.setCell] at hs ⊢
  rw [hs]
/-- the five errors stand -/
def ErrsI (w : World) : Prop := ErrAt w 0 ∧ ErrAt w 1 ∧ ErrAt w 2 ∧ ErrAt w 3 ∧ ErrAt w 5
theorem ErrAt.on {w w' : World} {g B : Nat} (h : ErrAt w g) (hb : Below B w w') (hB : w.heap.size ≤ B ∨ g < B) : ErrAt w' g := by
  obtain ⟨ty, v, h⟩ := h
  have hg := World.block_lt_of_cell? w _ h
  exact ⟨ty, v, by rw [hb.cell (p := ⟨g, 0, none⟩) (hB.elim (fun h => Nat.lt_of_lt_of_le hg h) id)]; exact h⟩
theorem ErrsI.below {w w' : World} (h : ErrsI w) (hb : Below w.heap.size w w') : ErrsI w' := ⟨h.1.on hb (.inl (Nat.le_refl _)), h.2.1.on hb (.inl (Nat.le_refl _)), h.2.2.1.on hb (.inl (Nat.le_refl _)), h.2.2.2.1.on hb (.inl (Nat.le_refl _)), h.2.2.2.2.on hb (.inl (Nat.le_refl _))⟩
theorem bookB_no {n : Nat} {f : Nat → ByteArray} {L : List SetL} (h : rulesB n f = false) : bookB n f L = false := by unfold bookB; rw [h]; rfl
theorem bookB_at {n : Nat} {f : Nat → ByteArray} {L : List SetL} (k : Nat) (hk : k < L.length) (h : okB n f L k = false) : bookB n f L = false := by
  unfold bookB
  rw [decide_eq_false (p := ∀ k, k < L.length → okB n f L k = true) (fun h' => by rw [h' k hk] at h; cases h), Bool.and_false]
theorem bookB_all {n : Nat} {f : Nat → ByteArray} {L : List SetL} (hr : rulesB n f = true) (h : ∀ k, k < L.length → okB n f L k = true) : bookB n f L = true := by
  unfold bookB; rw [hr, decide_eq_true h]; rfl
theorem okB_add {n : Nat} {f : Nat → ByteArray} {L : List SetL} {k : Nat} (h : addB n f (plOf L k) k (atS L k) = false) : okB n f L k = false := by unfold okB; rw [h, Bool.and_false]
theorem okB_order {n : Nat} {f : Nat → ByteArray} {L : List SetL} {m : Nat} (h : Op.bytesLess (atS L m).1.toList (atS L (m + 1)).1.toList = false) : okB n f L (m + 1) = false := by
  unfold okB; rw [Nat.add_sub_cancel, h]; rfl
theorem okB_yes {n : Nat} {f : Nat → ByteArray} {L : List SetL} {k : Nat} (h : addB n f (plOf L k) k (atS L k) = true) (h2 : k = 0 ∨ Op.bytesLess (atS L (k - 1)).1.toList (atS L k).1.toList = true) : okB n f L k = true := by
  unfold okB
  rw [h, Bool.and_true, Bool.or_eq_true, beq_iff_eq]
  exact h2
theorem okB_succ {n : Nat} {f : Nat → ByteArray} {L : List SetL} {k : Nat} (h : ∀ i, i < k → okB n f L i = true) (hk : okB n f L k = true) : ∀ i, i < k + 1 → okB n f L i = true := by
  intro i hi
  by_cases e : i = k
  · subst e; exact hk
  · exact h i (by omega)
theorem okB_six {n : Nat} {f : Nat → ByteArray} {L : List SetL} {k : Nat} (h : ∀ i, i < k → okB n f L i = true) : k ≤ 6 := by
  by_cases h6 : 6 < k
  · have := h 6 h6
    unfold okB addB at this
    rw [decide_eq_true rfl] at this
    simp at this
  · omega
theorem BookR.setLow {w : World} {B0 b bm r o : Nat} {rv sv x : Value} {T : List (SetL × Value)} (h : BookR w B0 b bm rv T sv) (hr : r < B0) : BookR (w.setCell ⟨r, o, none⟩ x) B0 b bm rv T sv where
  hb := h.hb
  hbm := h.hbm
  c0 := by rw [World.cell?_setCell_other _ _ _ _ (by intro e; injection e with e; have := h.hb; omega)]; exact h.c0
  c1 := by rw [World.cell?_setCell_other _ _ _ _ (by intro e; injection e with e; have := h.hb; omega)]; exact h.c1
  c2 := by rw [World.cell?_setCell_other _ _ _ _ (by intro e; injection e with e; have := h.hb; omega)]; exact h.c2
  fz := fun o => by rw [World.frozen?_setCell]; exact h.fz o
  own := own_far h.own (fun e => by have := (own_in5 h.own e).1; omega)
  nb := h.nb
  mem := fun t ht => ⟨(h.mem t ht).1.setFar (fun hn => by
    obtain ⟨g, e, hg, -⟩ := (h.mem t ht).1.place hn
    rw [e]
    intro e2
    have := Option.some.inj e2
    omega), (h.mem t ht).2⟩
/-- what the book is in the end -/
def BookIs (w : World) (B0 : Nat) (v : Value) (rv : Value) (L : List SetL) : Prop := ∃ B1 b bm T sv, B0 ≤ B1 ∧ v = .agg #[rv, sv, .map (some bm)] ∧ T.map Prod.fst = L ∧ BookR w B1 b bm rv T sv ∧ MapIs w bm 30 (plOf L L.length)
theorem take_snoc5 {L : List SetL} {k : Nat} (hk : k < L.length) : L.take (k + 1) = L.take k ++ [atS L k] := by
  rw [List.take_succ_eq_append_getElem hk]
  simp [atS, hk]
set_option maxRecDepth 10000 in
set_option maxHeartbeats 8000000 in
theorem bookOf_any (rv lv : Value) (n B B' : Nat) (f : Nat → ByteArray) (L : List SetL) (w : World) (hG : MaxI w) (hE : ErrsI w) (hr : SliceS w B rv n f) (l1 : n ≤ 1048576) (hf : ∀ i, i < n → (f i).size ≤ 1048576) (hs : SliceT w B' lv L) (hn : L.length ≤ 1048576) (hz : ∀ j, j < L.length → szS (atS L j)) :
    Calls Tryd.prog 95 #[rv, lv] w fun e w' => ((setsB n f L = true ∧ ∃ v, e = .returned (.tuple #[v, .nilIface]) ∧ BookIs w' w.heap.size v rv L) ∨ (setsB n f L = false ∧ ∃ ty v, e = .returned (.tuple #[.agg #[.slice none 0 0, .slice none 0 0, .map none], .iface ty v]))) ∧ Below w.heap.size w w' := by
  rw [← bookB_sets]
  have HNo : Hid (rulesB n f = false → bookB n f L = false) := fun h => bookB_no h
  have HAt : Hid (∀ k, k < L.length → okB n f L k = false → bookB n f L = false) := fun k a b => bookB_at k a b
  have HAll : Hid (rulesB n f = true → (∀ k, k < L.length → okB n f L k = true) → bookB n f L = true) := fun a b => bookB_all a b
  obtain ⟨uu, ⟨q, cap, rfl, hg⟩, hu, -⟩ := hs
  have HSl : Hid (SliceS w B rv n f) := hr
  have HG0 : Hid (MaxI w) := hG
  have HE0 : Hid (ErrsI w) := hE
  have HZ : Hid (∀ j, j < L.length → szS (atS L j)) := hz
  have HU : Hid (∀ j, j < L.length → SliceS w B' (uu j) (atS L j).2.length (atL (atS L j).2)) := hu
  have HF : Hid (∀ i, i < n → (f i).size ≤ 1048576) := hf
  have HGc : Hid (0 < L.length → ∃ g, q = some ⟨g, 0, none⟩ ∧ g < w.heap.size ∧ ∀ j, j < L.length → w.cell? ⟨g, j * 2, none⟩ = some (.string (atS L j).1) ∧ w.cell? ⟨g, j * 2 + 1, none⟩ = some (uu j)) := fun h0 => by
    obtain ⟨g, e, -, hgw, hc⟩ := hg h0
    exact ⟨g, e, hgw, fun j hj => ⟨(hc j hj 0 (by omega)).1, (hc j hj 1 (by omega)).1⟩⟩
  obtain ⟨rp, rc, rfl, -⟩ := hr
  clear hg hu hG hE hz hf
  generalize bookB n f L = R at *
  obtain ⟨W0, hW⟩ : ∃ W0, W0 = w.alloc (.cells #[.slice none 0 0, .slice none 0 0, .map none] 107) := ⟨_, rfl⟩
  have hW0 : Hid (W0 = w.alloc (.cells #[.slice none 0 0, .slice none 0 0, .map none] 107)) := hW
  have HB0 : Hid (Below w.heap.size w W0) := by show Below _ _ _; rw [hW]; exact (Below.refl _ _).alloc (Nat.le_refl _) _
  have z0 : w.heap.size < W0.heap.size := by rw [hW]; simp
  have a0 : W0.cell? ⟨w.heap.size, 0, none⟩ = some (.slice none 0 0) := by rw [hW]; simp
  have a1 : W0.cell? ⟨w.heap.size, 1, none⟩ = some (.slice none 0 0) := by rw [hW]; simp
  have a2 : W0.cell? ⟨w.heap.size, 2, none⟩ = some (.map none) := by rw [hW]; simp
  have af : Hid (∀ o, W0.frozen? ⟨w.heap.size, o, none⟩ = false) := by intro o; rw [hW]; simp
  clear hW
  have KR : Hid (Calls Tryd.prog 23 #[.slice rp n rc] W0 fun e w' => e = .returned (.bool (rulesB n f)) ∧ Below W0.heap.size W0 w') := rulesRight_any _ n B f W0 (HG0.out.on HB0.out) (HSl.out.below HB0.out) l1 HF.out
  generalize hrb : rulesB n f = rb at *
  go_enter Tryd.func95, Tryd.ntmps95
  go_upto_region 1 with fail
  rw [← hW0.out]
  clear hW0
  go_wp2_with fail
  refine KR.out.mono ?_
  rintro e w1 ⟨rfl, hb1⟩
  have B1 : Hid (Below w.heap.size w w1) := HB0.out.trans (hb1.mono HB0.out.size)
  have z1 : w.heap.size < w1.heap.size := Nat.lt_of_lt_of_le z0 hb1.size
  have b0 : w1.cell? ⟨w.heap.size, 0, none⟩ = some (.slice none 0 0) := ((bcell hb1).1 _ _ z0).trans a0
  have b1 : w1.cell? ⟨w.heap.size, 1, none⟩ = some (.slice none 0 0) := ((bcell hb1).1 _ _ z0).trans a1
  have b2 : w1.cell? ⟨w.heap.size, 2, none⟩ = some (.map none) := ((bcell hb1).1 _ _ z0).trans a2
  have bf : Hid (∀ o, w1.frozen? ⟨w.heap.size, o, none⟩ = false) := fun o => ((bcell hb1).2 _ _ z0).trans (af.out o)
  have E1 : Hid (ErrsI w1) := HE0.out.below B1.out
  clear hb1 a0 a1 a2 af KR HB0 HE0
  cases rb with
  | false =>
    have HQ : Hid (R = false) := HNo.out rfl
    obtain ⟨ety, ev, hev⟩ := E1.out.1
    have f0 := bf.out 0
    have f1 := bf.out 1
    have f2 := bf.out 2
    have s0 : w1.setCell ⟨w.heap.size, 0, none⟩ (.slice none 0 0) = w1 := setCell_same5 b0
    have s1 : w1.setCell ⟨w.heap.size, 1, none⟩ (.slice none 0 0) = w1 := setCell_same5 b1
    have s2 : w1.setCell ⟨w.heap.size, 2, none⟩ (.map none) = w1 := setCell_same5 b2
    have t0 : w1.drew.setCell ⟨w.heap.size, 0, none⟩ (.slice none 0 0) = w1.drew := setCell_same5 b0
    have t1 : w1.drew.setCell ⟨w.heap.size, 1, none⟩ (.slice none 0 0) = w1.drew := setCell_same5 b1
    have t2 : w1.drew.setCell ⟨w.heap.size, 2, none⟩ (.map none) = w1.drew := setCell_same5 b2
    clear HNo HAt HAll
    go_wp2_with fail
    go_region
    go_wp2
    exact bodyPost_ret (v := .tuple #[.agg #[.slice none 0 0, .slice none 0 0, .map none], .iface ety ev]) (by simp [results, Tryd.results95, go_sem, b0, b1, b2]) rfl ⟨.inr ⟨HQ.out, _, _, rfl⟩, B1.out.drew⟩
  | true =>
    have HAll1 : Hid ((∀ k, k < L.length → okB n f L k = true) → R = true) := HAll.out rfl
    clear HNo HAll
    have hmm := @run_makeMap Tryd.prog
    obtain ⟨W2, hW⟩ : ∃ W2, W2 = ((w1.alloc (.map #[] 0)).alloc (.cells #[.slice rp n rc, .slice none 0 0, .map (some w1.heap.size)] 107)) := ⟨_, rfl⟩
    have hW2 : Hid (W2 = ((w1.alloc (.map #[] 0)).alloc (.cells #[.slice rp n rc, .slice none 0 0, .map (some w1.heap.size)] 107))) := hW
    have HB2 : Hid (Below w1.heap.size w1 W2) := by show Below _ _ _; rw [hW]; exact ((Below.refl _ _).alloc (Nat.le_refl _) _).alloc (by simp) _
    have M2 : Hid (MapIs W2 w1.heap.size 0 (plOf L 0)) := by
      show MapIs _ _ _ _
      rw [hW]
      exact (mapIs_made w1).below ((Below.refl _ _).alloc (Nat.le_refl _) _)
    have K2 : Hid (BookR W2 w1.heap.size (w1.heap.size + 1) w1.heap.size (.slice rp n rc) [] (.slice none 0 0)) := by
      show BookR _ _ _ _ _ _ _
      rw [hW]
      exact ⟨by omega, Nat.le_refl _, (World.cell?_alloc_at _ _ _ _ (by simp)).trans rfl, (World.cell?_alloc_at _ _ _ _ (by simp)).trans rfl, (World.cell?_alloc_at _ _ _ _ (by simp)).trans rfl, fun o => World.frozen?_alloc_at _ _ _ _ (by simp), World.ownsRow_nil _ _ _ _, (by intro e; cases e), fun t ht => by cases ht⟩
    clear hW
    go_upto_region 4 with fail
    rw [← hW2.out]
    clear hW2 hmm
    go_wp2
    go_loopw [20] (fun i wr => ∃ (k : Nat) (T : List (SetL × Value)) (sv : Value), k ≤ L.length ∧ i = .int .i64 k ∧ Hid (T.map Prod.fst = L.take k) ∧ Hid (BookR wr w1.heap.size (w1.heap.size + 1) w1.heap.size (.slice rp n rc) T sv) ∧ Hid (MapIs wr w1.heap.size (5 * k) (plOf L k)) ∧ Hid (Below w1.heap.size w1 wr) ∧ Hid (∀ j, j < k → okB n f L j = true)) (fun i _ => L.length - (intOf i).toNat)
    case atStart => exact ⟨0, [], _, Nat.zero_le _, rfl, rfl, K2, M2, HB2, fun j hj => absurd hj (by omega)⟩
    case round =>
      obtain ⟨k, T, sv, hk, rfl, HT, HK, HM, HB, HR⟩ := hrel
      have r0 : wr.cell? ⟨w.heap.size, 0, none⟩ = some (.slice none 0 0) := ((bcell HB.out).1 _ _ z1).trans b0
      have r1 : wr.cell? ⟨w.heap.size, 1, none⟩ = some (.slice none 0 0) := ((bcell HB.out).1 _ _ z1).trans b1
      have r2 : wr.cell? ⟨w.heap.size, 2, none⟩ = some (.map none) := ((bcell HB.out).1 _ _ z1).trans b2
      have RF : Hid (∀ o, wr.frozen? ⟨w.heap.size, o, none⟩ = false) := fun o => ((bcell HB.out).2 _ _ z1).trans (bf.out o)
      have hz1r : w1.heap.size ≤ wr.heap.size := HB.out.size
      have BW : Hid (Below w.heap.size w wr) := B1.out.trans (HB.out.mono (Nat.le_of_lt z1))
      by_cases hlt : k < L.length
      · obtain ⟨g, rfl, hgw, hc⟩ := HGc.out (by omega)
        have h6 : k ≤ 6 := okB_six HR.out
        have hTl : T.length = k := by
          have := congrArg List.length HT.out
          rw [List.length_map, List.length_take] at this; omega
        have HTl : Hid (T.length = k) := hTl
        have c0 : wr.cell? ⟨g, k * 2, none⟩ = some (.string (atS L k).1) := ((bcell BW.out).1 _ _ hgw).trans (hc k hlt).1
        have c1 : wr.cell? ⟨g, k * 2 + 1, none⟩ = some (uu k) := ((bcell BW.out).1 _ _ hgw).trans (hc k hlt).2
        have k0 : (0 : Int) ≤ k := by omega
        have k1 : (k : Int) < L.length := by omega
        have SU : Hid (SliceS wr B' (uu k) (atS L k).2.length (atL (atS L k).2)) := (HU.out k hlt).below BW.out
        obtain ⟨up, uc, hup, -⟩ := SU.out
        obtain ⟨y1, y2, y3⟩ := HZ.out k hlt
        have KA0 : ∀ W, Below wr.heap.size wr W → Calls Tryd.prog 148 #[.pointer (some ⟨w1.heap.size + 1, 0, none⟩), .agg #[.string (atS L k).1, uu k]] W fun e w' =>
            ((addB n f (plOf L k) k (atS L k) = true ∧ e = .returned .nilIface ∧ (∃ u' sv', BookR w' w1.heap.size (w1.heap.size + 1) w1.heap.size (.slice rp n rc) (T ++ [(atS L k, u')]) sv') ∧ MapIs w' w1.heap.size (5 * k + 5) (plOf L (k + 1))) ∨ (addB n f (plOf L k) k (atS L k) = false ∧ (∃ ty v, e = .returned (.iface ty v)) ∧ BookR w' w1.heap.size (w1.heap.size + 1) w1.heap.size (.slice rp n rc) T sv ∧ MapIs w' w1.heap.size (5 * k + 5) (plOf L k))) ∧ Below w1.heap.size W w' := fun W hb => by
          have BWW : Below w.heap.size w W := BW.out.trans (hb.mono BW.out.size)
          have h := add_any w1.heap.size (w1.heap.size + 1) w1.heap.size (5 * k) n B B' (.slice rp n rc) sv (uu k) f T (plOf L k) (atS L k) W (HG0.out.on BWW) (HSl.out.below BWW) l1 HF.out (SU.out.below hb) y2 y1 y3 (HK.out.below hb) (HM.out.below hb) (by omega) (by omega) (E1.out.2.2.1.on (HB.out.trans (hb.mono HB.out.size)) (.inl (Nat.le_refl _))) (E1.out.2.2.2.1.on (HB.out.trans (hb.mono HB.out.size)) (.inl (Nat.le_refl _))) (E1.out.2.2.2.2.on (HB.out.trans (hb.mono HB.out.size)) (.inl (Nat.le_refl _)))
          rw [HTl.out] at h
          exact h
        have HOrd : Hid (∀ m, k = m + 1 → wr.cell? ⟨g, m * 2, none⟩ = some (.string (atS L m).1)) := fun m e => ((bcell BW.out).1 _ _ hgw).trans (hc m (by omega)).1
        have HNo : Hid (addB n f (plOf L k) k (atS L k) = false → R = false) := fun e => HAt.out k hlt (okB_add e)
        have HNext : Hid (∀ u', (T ++ [(atS L k, u')]).map Prod.fst = L.take (k + 1)) := fun u' => by rw [List.map_append, HT.out, take_snoc5 hlt]; rfl
        have HYes : Hid (addB n f (plOf L k) k (atS L k) = true → (k = 0 ∨ Op.bytesLess (atS L (k - 1)).1.toList (atS L k).1.toList = true) → ∀ j, j < k + 1 → okB n f L j = true) := fun a b => okB_succ HR.out (okB_yes a b)
        have HOrdN : Hid (∀ m, k = m + 1 → Op.bytesLess (atS L m).1.toList (atS L (m + 1)).1.toList = false → R = false) := fun m e h => by subst e; exact HAt.out (m + 1) hlt (okB_order h)
        have hge : ∀ (t : TypeId) (a b : ByteArray), binOp .geq t (.string a) (.string b) = pure (.bool (!(Op.bytesLess a.toList b.toList))) := geq_text
        rw [hup] at KA0 c1
        clear hc hup y1 y2 y3
        generalize (atS L k).2.length = nu at *
        generalize hpk : (atS L k).1 = pk at *
        obtain ⟨W3, hW⟩ : ∃ W3, W3 = wr.alloc (.cells #[.string pk, .slice up nu uc] 47) := ⟨_, rfl⟩
        have hW3 : Hid (W3 = wr.alloc (.cells #[.string pk, .slice up nu uc] 47)) := hW
        have HB3 : Hid (Below wr.heap.size wr W3) := by show Below _ _ _; rw [hW]; exact (Below.refl _ _).alloc (Nat.le_refl _) _
        have d0 : W3.cell? ⟨wr.heap.size, 0, none⟩ = some (.string pk) := by rw [hW]; simp
        have d1 : W3.cell? ⟨wr.heap.size, 1, none⟩ = some (.slice up nu uc) := by rw [hW]; simp
        have hz3 : wr.heap.size < W3.heap.size := by rw [hW]; simp
        have hwr : w.heap.size < wr.heap.size := Nat.lt_of_lt_of_le z1 hz1r
        have q0 : W3.cell? ⟨w.heap.size, 0, none⟩ = some (.slice none 0 0) := ((bcell HB3.out).1 _ _ hwr).trans r0
        have q1 : W3.cell? ⟨w.heap.size, 1, none⟩ = some (.slice none 0 0) := ((bcell HB3.out).1 _ _ hwr).trans r1
        have q2 : W3.cell? ⟨w.heap.size, 2, none⟩ = some (.map none) := ((bcell HB3.out).1 _ _ hwr).trans r2
        have QF : Hid (∀ o, W3.frozen? ⟨w.heap.size, o, none⟩ = false) := fun o => ((bcell HB3.out).2 _ _ hwr).trans (RF.out o)
        have KA : Hid (∀ W, Below W3.heap.size W3 W → Calls Tryd.prog 148 #[.pointer (some ⟨w1.heap.size + 1, 0, none⟩), .agg #[.string pk, .slice up nu uc]] W fun e w' =>
            ((addB n f (plOf L k) k (atS L k) = true ∧ e = .returned .nilIface ∧ (∃ u' sv', BookR w' w1.heap.size (w1.heap.size + 1) w1.heap.size (.slice rp n rc) (T ++ [(atS L k, u')]) sv') ∧ MapIs w' w1.heap.size (5 * k + 5) (plOf L (k + 1))) ∨ (addB n f (plOf L k) k (atS L k) = false ∧ (∃ ty v, e = .returned (.iface ty v)) ∧ BookR w' w1.heap.size (w1.heap.size + 1) w1.heap.size (.slice rp n rc) T sv ∧ MapIs w' w1.heap.size (5 * k + 5) (plOf L k))) ∧ Below w1.heap.size W w') := fun W hb => KA0 W (HB3.out.trans (hb.mono HB3.out.size))
        have BW3 : Hid (Below w.heap.size w W3) := BW.out.trans (HB3.out.mono BW.out.size)
        have BV3 : Hid (Below w1.heap.size w1 W3) := HB.out.trans (HB3.out.mono hz1r)
        clear hW KA0 HK HM HT HTl hTl r0 r1 r2 RF SU
        go_upto_region 7 with fail
        rw [← hW3.out]
        clear hW3
        cases k with
        | zero =>
          have q5 : decide ((0 : Int) < ((0 : Nat) : Int)) = false := by decide
          clear HOrd HOrdN
          go_region
          go_wp2_with fail
          refine (KA.out _ (by first | exact Below.drew (Below.refl _ _) | exact Below.refl _ _)).mono ?_
          rintro e w4 ⟨hres, hb4⟩
          have B4 : Hid (Below w1.heap.size w1 w4) := BV3.out.trans (by first | exact (Below.drew (Below.refl _ _)).trans hb4 | exact hb4)
          have BW4 : Hid (Below w.heap.size w w4) := B1.out.trans (B4.out.mono (Nat.le_of_lt z1))
          have p0 : w4.cell? ⟨w.heap.size, 0, none⟩ = some (.slice none 0 0) := ((bcell B4.out).1 _ _ z1).trans b0
          have p1 : w4.cell? ⟨w.heap.size, 1, none⟩ = some (.slice none 0 0) := ((bcell B4.out).1 _ _ z1).trans b1
          have p2 : w4.cell? ⟨w.heap.size, 2, none⟩ = some (.map none) := ((bcell B4.out).1 _ _ z1).trans b2
          have PF : Hid (∀ o, w4.frozen? ⟨w.heap.size, o, none⟩ = false) := fun o => ((bcell B4.out).2 _ _ z1).trans (bf.out o)
          clear hb4 q0 q1 q2 d0 d1
          rcases hres with ⟨ha, rfl, ⟨u', sv', hk4⟩, hm4⟩ | ⟨ha, ⟨ety, ev, rfl⟩, -, -⟩
          · have HR2 : Hid (∀ j, j < 0 + 1 → okB n f L j = true) := HYes.out ha (by first | exact .inl rfl | exact .inl trivial)
            have HK4 : Hid (BookR w4 w1.heap.size (w1.heap.size + 1) w1.heap.size (.slice rp n rc) (T ++ [(atS L 0, u')]) sv') := hk4
            have HM4 : Hid (MapIs w4 w1.heap.size (5 * (0 + 1)) (plOf L (0 + 1))) := hm4
            have HT4 := HNext.out u'
            have HT5 : Hid ((T ++ [(atS L 0, u')]).map Prod.fst = L.take (0 + 1)) := HT4
            clear ha hk4 hm4 HT4
            go_wp2
            go_roundw
            case rel => exact ⟨0 + 1, _, sv', by omega, by go_num, HT5, HK4, HM4, B4, HR2⟩
            case measure => simp [intOf]; omega
          · have HQ : Hid (R = false) := HNo.out ha
            have f0 := PF.out 0
            have f1 := PF.out 1
            have f2 := PF.out 2
            have s0 : w4.setCell ⟨w.heap.size, 0, none⟩ (.slice none 0 0) = w4 := setCell_same5 p0
            have s1 : w4.setCell ⟨w.heap.size, 1, none⟩ (.slice none 0 0) = w4 := setCell_same5 p1
            have s2 : w4.setCell ⟨w.heap.size, 2, none⟩ (.map none) = w4 := setCell_same5 p2
            clear ha
            go_wp2
            exact bodyPost_ret (v := .tuple #[.agg #[.slice none 0 0, .slice none 0 0, .map none], .iface ety ev]) (by simp [results, Tryd.results95, go_sem, p0, p1, p2]) rfl ⟨.inr ⟨HQ.out, _, _, rfl⟩, BW4.out⟩
        | succ m =>
          have cm := HOrd.out m rfl
          have cm3 : W3.cell? ⟨g, m * 2, none⟩ = some (.string (atS L m).1) := ((bcell HB3.out).1 _ _ (Nat.lt_trans hgw hwr)).trans cm
          have HON := HOrdN.out m rfl
          have q5 : decide ((0 : Int) < ((m : Int) + 1)) = true := by rw [decide_eq_true_iff]; omega
          have hw1 : IntKind.i64.wrap ((m : Int) + 1 - 1) = m := by
            rw [IntKind.wrap_i64]; omega
          have hw2 : IntKind.i64.wrap (m : Int) = m := by rw [IntKind.wrap_i64]; omega
          have m0 : (0 : Int) ≤ m := by omega
          have m1 : (m : Int) < L.length := by omega
          have HY2 : Hid (addB n f (plOf L (m + 1)) (m + 1) (atS L (m + 1)) = true → Op.bytesLess (atS L m).1.toList pk.toList = true → ∀ j, j < m + 1 + 1 → okB n f L j = true) := fun a b => HYes.out a (.inr b)
          rw [hpk] at HON
          clear HOrd HOrdN HYes cm
          generalize (atS L m).1 = pm at *
          cases hl : Op.bytesLess pm.toList pk.toList with
          | false =>
            have HQ : Hid (R = false) := HON hl
            obtain ⟨ety, ev, hev⟩ := E1.out.2.1.on BV3.out (.inl (Nat.le_refl _))
            have f0 := QF.out 0
            have f1 := QF.out 1
            have f2 := QF.out 2
            have s0 : W3.setCell ⟨w.heap.size, 0, none⟩ (.slice none 0 0) = W3 := setCell_same5 q0
            have s1 : W3.setCell ⟨w.heap.size, 1, none⟩ (.slice none 0 0) = W3 := setCell_same5 q1
            have s2 : W3.setCell ⟨w.heap.size, 2, none⟩ (.map none) = W3 := setCell_same5 q2
            clear HON HY2 KA HNo HNext
            go_region
            go_wp2_with fail
            go_region
            go_wp2
            exact bodyPost_ret (v := .tuple #[.agg #[.slice none 0 0, .slice none 0 0, .map none], .iface ety ev]) (by simp [results, Tryd.results95, go_sem, q0, q1, q2]) rfl ⟨.inr ⟨HQ.out, _, _, rfl⟩, BW3.out.drew.drew⟩
          | true =>
            have HYes : Hid (addB n f (plOf L (m + 1)) (m + 1) (atS L (m + 1)) = true → True → ∀ j, j < m + 1 + 1 → okB n f L j = true) := fun a _ => HY2.out a hl
            clear HON HY2
            go_region
            go_wp2_with fail
            refine (KA.out _ (by first | exact Below.drew (Below.refl _ _) | exact Below.refl _ _)).mono ?_
            rintro e w4 ⟨hres, hb4⟩
            have B4 : Hid (Below w1.heap.size w1 w4) := BV3.out.trans (by first | exact (Below.drew (Below.refl _ _)).trans hb4 | exact hb4)
            have BW4 : Hid (Below w.heap.size w w4) := B1.out.trans (B4.out.mono (Nat.le_of_lt z1))
            have p0 : w4.cell? ⟨w.heap.size, 0, none⟩ = some (.slice none 0 0) := ((bcell B4.out).1 _ _ z1).trans b0
            have p1 : w4.cell? ⟨w.heap.size, 1, none⟩ = some (.slice none 0 0) := ((bcell B4.out).1 _ _ z1).trans b1
            have p2 : w4.cell? ⟨w.heap.size, 2, none⟩ = some (.map none) := ((bcell B4.out).1 _ _ z1).trans b2
            have PF : Hid (∀ o, w4.frozen? ⟨w.heap.size, o, none⟩ = false) := fun o => ((bcell B4.out).2 _ _ z1).trans (bf.out o)
            clear hb4 q0 q1 q2 d0 d1
            rcases hres with ⟨ha, rfl, ⟨u', sv', hk4⟩, hm4⟩ | ⟨ha, ⟨ety, ev, rfl⟩, -, -⟩
            · have HR2 : Hid (∀ j, j < (m + 1) + 1 → okB n f L j = true) := HYes.out ha trivial
              have HK4 : Hid (BookR w4 w1.heap.size (w1.heap.size + 1) w1.heap.size (.slice rp n rc) (T ++ [(atS L (m + 1), u')]) sv') := hk4
              have HM4 : Hid (MapIs w4 w1.heap.size (5 * ((m + 1) + 1)) (plOf L ((m + 1) + 1))) := hm4
              have HT4 := HNext.out u'
              have HT5 : Hid ((T ++ [(atS L (m + 1), u')]).map Prod.fst = L.take ((m + 1) + 1)) := HT4
              clear ha hk4 hm4 HT4
              go_wp2
              go_roundw
              case rel => exact ⟨(m + 1) + 1, _, sv', by omega, by go_num, HT5, HK4, HM4, B4, HR2⟩
              case measure => simp [intOf]; omega
            · have HQ : Hid (R = false) := HNo.out ha
              have f0 := PF.out 0
              have f1 := PF.out 1
              have f2 := PF.out 2
              have s0 : w4.setCell ⟨w.heap.size, 0, none⟩ (.slice none 0 0) = w4 := setCell_same5 p0
              have s1 : w4.setCell ⟨w.heap.size, 1, none⟩ (.slice none 0 0) = w4 := setCell_same5 p1
              have s2 : w4.setCell ⟨w.heap.size, 2, none⟩ (.map none) = w4 := setCell_same5 p2
              clear ha
              go_wp2
              exact bodyPost_ret (v := .tuple #[.agg #[.slice none 0 0, .slice none 0 0, .map none], .iface ety ev]) (by simp [results, Tryd.results95, go_sem, p0, p1, p2]) rfl ⟨.inr ⟨HQ.out, _, _, rfl⟩, BW4.out⟩
      · obtain rfl : k = L.length := by omega
        have HQ : Hid (R = true) := HAll1.out HR.out
        have hl6 : L.length ≤ 6 := okB_six HR.out
        have x0 := HK.out.c0
        have x1 := HK.out.c1
        have x2 := HK.out.c2
        have f0 := RF.out 0
        have f1 := RF.out 1
        have f2 := RF.out 2
        obtain ⟨sp, sc, rfl⟩ : ∃ p c, sv = .slice p T.length c := by
          obtain ⟨_, ⟨rfl, h0⟩ | ⟨g, cap, cur, rfl, _⟩⟩ := HK.out.own
          · exact ⟨none, 0, by rw [h0]⟩
          · exact ⟨_, _, rfl⟩
        have HFin : Hid (∀ x y z : Value, BookIs (((wr.setCell ⟨w.heap.size, 0, none⟩ x).setCell ⟨w.heap.size, 1, none⟩ y).setCell ⟨w.heap.size, 2, none⟩ z) w.heap.size (.agg #[.slice rp n rc, .slice sp T.length sc, .map (some w1.heap.size)]) (.slice rp n rc) L) := fun x y z => ⟨w1.heap.size, _, _, T, _, Nat.le_of_lt z1, rfl, by rw [HT.out, List.take_length], ((HK.out.setLow z1).setLow z1).setLow z1, ((HM.out.mono (by omega)).far (by omega)).far (by omega) |>.far (by omega)⟩
        have HFB : Hid (∀ x y z : Value, Below w.heap.size w (((wr.setCell ⟨w.heap.size, 0, none⟩ x).setCell ⟨w.heap.size, 1, none⟩ y).setCell ⟨w.heap.size, 2, none⟩ z)) := fun x y z => ((BW.out.setCell (Nat.le_refl _) _).setCell (Nat.le_refl _) _).setCell (Nat.le_refl _) _
        go_wp2
        exact bodyPost_ret (v := .tuple #[.agg #[.slice rp n rc, .slice sp T.length sc, .map (some w1.heap.size)], .nilIface]) (by simp [results, Tryd.results95, go_sem, r0, r1, r2]) rfl ⟨.inl ⟨HQ.out, _, rfl, HFin.out _ _ _⟩, HFB.out _ _ _⟩
end Go.Proofs.YtfoekelhcmlagaaDoor

/- The law FnExactSetsRight, walked; the walk of the program's SetsRight. -/
namespace Go.Proofs.YtfoekelhcmlagaaDoor
open Go.RowKit Go.Maps

theorem bookR_slice {w : World} {B0 b bm : Nat} {rv sv : Value} {T : List (SetL × Value)} (h : BookR w B0 b bm rv T sv) : ∃ p c, sv = .slice p T.length c := by
  obtain ⟨_, ⟨rfl, h0⟩ | ⟨g, cap, cur, rfl, _⟩⟩ := h.own
  · exact ⟨none, 0, by rw [h0]⟩
  · exact ⟨_, _, rfl⟩
set_option maxRecDepth 10000 in
set_option maxHeartbeats 4000000 in
theorem setsRight_any (rv lv : Value) (n B B' : Nat) (f : Nat → ByteArray) (L : List SetL) (w : World) (hG : MaxI w) (hE : ErrsI w) (hr : SliceS w B rv n f) (l1 : n ≤ 1048576) (hf : ∀ i, i < n → (f i).size ≤ 1048576) (hs : SliceT w B' lv L) (hn : L.length ≤ 1048576) (hz : ∀ j, j < L.length → szS (atS L j)) :
    Calls Tryd.prog 33 #[rv, lv] w fun e w' => e = .returned (.bool (setsB n f L)) ∧ Below w.heap.size w w' := by
  have KB : Hid (Calls Tryd.prog 95 #[rv, lv] w fun e w' => ((setsB n f L = true ∧ ∃ v, e = .returned (.tuple #[v, .nilIface]) ∧ BookIs w' w.heap.size v rv L) ∨ (setsB n f L = false ∧ ∃ ty v, e = .returned (.tuple #[.agg #[.slice none 0 0, .slice none 0 0, .map none], .iface ty v]))) ∧ Below w.heap.size w w') := bookOf_any rv lv n B B' f L w hG hE hr l1 hf hs hn hz
  obtain ⟨rp, rc, rfl, -⟩ := hr
  clear hG hE hf hs hz
  generalize setsB n f L = R at *
  go_enter Tryd.func33, Tryd.ntmps33
  go_wp2_with fail
  refine KB.out.mono ?_
  rintro e w1 ⟨⟨rfl, v, rfl, hb⟩ | ⟨rfl, ty, v, rfl⟩, hb1⟩
  · obtain ⟨B1, b, bm, T, sv, -, rfl, -, hk, -⟩ := hb
    obtain ⟨sp, sc, rfl⟩ := bookR_slice hk
    clear hk
    go_wp2
    go_ret
    exact ⟨rfl, by first | exact hb1 | exact hb1.alloc hb1.size _⟩
  · go_wp2
    go_ret
    exact ⟨rfl, by first | exact hb1 | exact hb1.alloc hb1.size _⟩
set_option maxRecDepth 10000 in
set_option maxHeartbeats 4000000 in
theorem lawSetsRight_any (a0 : Option Addr) (n cap0 : Nat) (f : Nat → ByteArray) (a1 : Option Addr) (cap1 : Nat) (L : List SetL) (w : World) (hG : MaxI w) (hE : ErrsI w) (hr0 : StrRow w a0 n f) (hn0 : n ≤ maxLen) (hr1 : SetRow w a1 L) (hn1 : L.length ≤ maxLen) :
    Calls Tryd.prog 4 #[.slice a0 n cap0, .slice a1 L.length cap1] w fun e w' => e = .returned (.bool true) ∧ Below w.heap.size w w' := by
  have HR0 : Hid (StrRow w a0 n f) := hr0
  have HR1 : Hid (SetRow w a1 L) := hr1
  have HG : Hid (MaxI w) := hG
  have HE : Hid (ErrsI w) := hE
  clear hr0 hr1 hG hE
  go_enter Tryd.func4, Tryd.ntmps4
  go_wp2_with fail
  refine (szStringS_any a0 n cap0 f 1048576 _ HR0.out hn0 (by decide) (by decide)).mono ?_
  rintro e w0 ⟨⟨r, rfl, hr⟩, rfl⟩
  rcases hr with hr | ⟨r0, r1, hl, hf⟩
  · go_wp2
    go_ret
    exact ⟨rfl, Below.refl _ _⟩
  have q : decide (r < 0) = false := by rw [decide_eq_false_iff_not]; omega
  have hl2 : n ≤ 1048576 := by omega
  have HF : Hid (∀ i, i < n → (f i).size ≤ 1048576) := fun i hi => by have := hf i hi; omega
  clear hf hl
  go_wp2_with fail
  refine (szSiteSetS_any a1 cap1 L r _ HR1.out hn1 r0 (by omega)).mono ?_
  rintro e w1 ⟨⟨r', rfl, hr'⟩, hb1⟩
  have B1 : Hid (Below w0.heap.size w0 w1) := hb1
  clear hb1 r0 r1
  rcases hr' with hr' | ⟨r0, r1, hL, hz⟩
  · go_wp2
    go_ret
    exact ⟨rfl, B1.out⟩
  have q' : decide (r' < 0) = false := by rw [decide_eq_false_iff_not]; omega
  have HZ : Hid (∀ i, i < L.length → szS (atS L i)) := hz
  clear hz r0 r1
  have KT0 : Hid (∀ W, Below w0.heap.size w0 W → Calls Tryd.prog 31 #[.slice a0 n cap0] W fun e w' => ∃ v, e = .returned v ∧ SliceS w' W.heap.size v n f ∧ Below W.heap.size W w') := fun W hb => toStringS_any a0 n cap0 f W (HR0.out.below hb) hl2
  have KT1 : Hid (∀ W, Below w0.heap.size w0 W → Calls Tryd.prog 32 #[.slice a1 L.length cap1] W fun e w' => ∃ v, e = .returned v ∧ SliceT w' W.heap.size v L ∧ Below W.heap.size W w') := fun W hb => toSiteSetS_any a1 cap1 L W (HR1.out.below hb) hL (fun i hi => (HZ.out i hi).2.1)
  have KS : Hid (∀ (v v' : Value) (B B' : Nat) (W : World), SliceS W B v n f → SliceT W B' v' L → Calls Tryd.prog 30 #[v, v'] W fun e w' => e = .returned (.bool (setsB n f L)) ∧ Below W.heap.size W w') := fun v v' B B' W a b => specSetsRight_any v n B f v' L B' W a hl2 HF.out b hL (fun j hj => (HZ.out j hj).2.1)
  have KI : Hid (∀ (v v' : Value) (B B' : Nat) (W : World), Below w0.heap.size w0 W → SliceS W B v n f → SliceT W B' v' L → Calls Tryd.prog 33 #[v, v'] W fun e w' => e = .returned (.bool (setsB n f L)) ∧ Below W.heap.size W w') := fun v v' B B' W hb a b => setsRight_any v v' n B B' f L W (HG.out.on hb) (HE.out.below hb) a hl2 HF.out b hL HZ.out
  have KE1 : Hid (∀ (v v' : Value) (B B' : Nat) (W : World), SliceT W B v L → SliceT W B' v' L → Calls Tryd.prog 35 #[v, v'] W fun e w' => e = .returned (.bool true) ∧ Below W.heap.size W w') := fun v v' B B' W a b => eqSiteSetS_any v v' L B B' W a b hL (fun i hi => (HZ.out i hi).2.1)
  clear HG HE HF HZ HR0 HR1
  generalize setsB n f L = d at *
  go_wp2_with fail
  refine (KT0.out _ B1.out).mono ?_
  rintro e w2 ⟨v2, rfl, s2, hb2⟩
  have B2 : Hid (Below w0.heap.size w0 w2) := B1.out.trans (hb2.mono B1.out.size)
  have S2 : Hid (SliceS w2 w1.heap.size v2 n f) := s2
  clear s2 hb2
  go_wp2_with fail
  refine (KT1.out _ B2.out).mono ?_
  rintro e w3 ⟨v3, rfl, s3, hb3⟩
  have B3 : Hid (Below w0.heap.size w0 w3) := B2.out.trans (hb3.mono B2.out.size)
  have S2_3 : Hid (SliceS w3 w1.heap.size v2 n f) := S2.out.below hb3
  have S3 : Hid (SliceT w3 w2.heap.size v3 L) := s3
  clear s3 hb3 S2
  go_wp2_with fail
  refine (KS.out _ _ _ _ _ S2_3.out S3.out).mono ?_
  rintro e w4 ⟨rfl, hb4⟩
  have B4 : Hid (Below w0.heap.size w0 w4) := B3.out.trans (hb4.mono B3.out.size)
  clear hb4 S2_3 S3 KS
  go_wp2_with fail
  refine (KT0.out _ B4.out).mono ?_
  rintro e w5 ⟨v5, rfl, s5, hb5⟩
  have B5 : Hid (Below w0.heap.size w0 w5) := B4.out.trans (hb5.mono B4.out.size)
  have S5 : Hid (SliceS w5 w4.heap.size v5 n f) := s5
  clear s5 hb5
  go_wp2_with fail
  refine (KT1.out _ B5.out).mono ?_
  rintro e w6 ⟨v6, rfl, s6, hb6⟩
  have B6 : Hid (Below w0.heap.size w0 w6) := B5.out.trans (hb6.mono B5.out.size)
  have S5_6 : Hid (SliceS w6 w4.heap.size v5 n f) := S5.out.below hb6
  have S6 : Hid (SliceT w6 w5.heap.size v6 L) := s6
  clear s6 hb6 S5
  go_wp2_with fail
  refine (KI.out _ _ _ _ _ B6.out S5_6.out S6.out).mono ?_
  rintro e w7 ⟨rfl, hb7⟩
  have B7 : Hid (Below w0.heap.size w0 w7) := B6.out.trans (hb7.mono B6.out.size)
  have S5_7 : Hid (SliceS w7 w4.heap.size v5 n f) := S5_6.out.below hb7
  have S6_7 : Hid (SliceT w7 w5.heap.size v6 L) := S6.out.below hb7
  clear hb7 S5_6 S6 KI
  cases d
  all_goals
    go_wp2_with fail
    refine (KT0.out _ B7.out).mono ?_
    rintro e w8 ⟨v8, rfl, s8, hb8⟩
    have B8 : Hid (Below w0.heap.size w0 w8) := B7.out.trans (hb8.mono B7.out.size)
    have S5_8 := S5_7.out.below hb8
    have S6_8 : Hid (SliceT w8 w5.heap.size v6 L) := S6_7.out.below hb8
    clear hb8
    go_wp2_with fail
    refine (eqStringS_any v5 v8 n _ _ f _ S5_8 s8 (by omega)).mono ?_
    rintro e w9 ⟨rfl, hb9⟩
    have B9 : Hid (Below w0.heap.size w0 w9) := B8.out.trans (hb9.mono B8.out.size)
    have S6_9 : Hid (SliceT w9 w5.heap.size v6 L) := S6_8.out.below hb9
    clear hb9 S5_8 s8
    go_wp2_with fail
    refine (KT1.out _ B9.out).mono ?_
    rintro e w10 ⟨v10, rfl, s10, hb10⟩
    have B10 : Hid (Below w0.heap.size w0 w10) := B9.out.trans (hb10.mono B9.out.size)
    have S6_10 : Hid (SliceT w10 w5.heap.size v6 L) := S6_9.out.below hb10
    clear hb10
    go_wp2_with fail
    refine (KE1.out _ _ _ _ _ S6_10.out s10).mono ?_
    rintro e w11 ⟨rfl, hb11⟩
    go_wp2
    go_ret
    exact ⟨rfl, B10.out.trans (hb11.mono B10.out.size)⟩
end Go.Proofs.YtfoekelhcmlagaaDoor

/- The walk of the program's SetsText. -/
namespace Go.Proofs.YtfoekelhcmlagaaDoor
open Go.RowKit Go.Maps

set_option maxRecDepth 10000 in
set_option maxHeartbeats 4000000 in
theorem setsText_any (rv lv : Value) (n B B' : Nat) (f : Nat → ByteArray) (L : List SetL) (w : World) (hG : MaxI w) (hE : ErrsI w) (hr : SliceS w B rv n f) (l1 : n ≤ 1048576) (hf : ∀ i, i < n → (f i).size ≤ 1048576) (hs : SliceTC w B' lv L) (hL : L.length ≤ 1048576) (hz : ∀ j, j < L.length → szS (atS L j)) :
    Calls Tryd.prog 37 #[rv, lv] w fun e w' => e = .returned (.string (setsT n f L)) ∧ Below w.heap.size w w' := by
  have KS : Hid (Calls Tryd.prog 33 #[rv, lv] w fun e w' => e = .returned (.bool (setsB n f L)) ∧ Below w.heap.size w w') := setsRight_any rv lv n B B' f L w hG hE hr l1 hf hs.plain hL hz
  have HFew : Hid (setsB n f L = true → L.length ≤ 6 ∧ ∀ j, j < L.length → 0 < (atS L j).2.length ∧ (atS L j).2.length ≤ 4 ∧ (atS L j).1.size ≤ 100 ∧ ∀ i, i < (atS L j).2.length → (atL (atS L j).2 i).size ≤ 100) := setsB_few
  have HY : Hid (setsB n f L = true → setsT n f L = textTo L L.length) := fun h => setsT_yes h
  have HN : Hid (setsB n f L = false → setsT n f L = ⟨#[]⟩) := fun h => setsT_no h
  obtain ⟨uu, ⟨lp, lc, rfl, hg⟩, hu, -, hcp⟩ := hs
  have HU : Hid (∀ j, j < L.length → SliceS w B' (uu j) (atS L j).2.length (atL (atS L j).2)) := hu
  have HC : Hid (∀ j, j < L.length → ∃ p c, uu j = .slice p (atS L j).2.length c ∧ (atS L j).2.length ≤ c) := hcp
  have HG : Hid (0 < L.length → ∃ g, lp = some ⟨g, 0, none⟩ ∧ g < w.heap.size ∧ ∀ j, j < L.length → w.cell? ⟨g, j * 2, none⟩ = some (.string (atS L j).1) ∧ w.cell? ⟨g, j * 2 + 1, none⟩ = some (uu j)) := fun h0 => by
    obtain ⟨g, e, -, hgw, hc⟩ := hg h0
    exact ⟨g, e, hgw, fun j hj => ⟨(hc j hj 0 (by omega)).1, (hc j hj 1 (by omega)).1⟩⟩
  obtain ⟨rp, rc, rfl, -⟩ := hr
  clear hf hz hg hu hcp hG hE
  generalize setsT n f L = R at *
  generalize setsB n f L = ss at *
  go_enter Tryd.func37, Tryd.ntmps37
  go_wp2_with fail
  refine KS.out.mono ?_
  rintro e w1 ⟨rfl, hb1⟩
  have B1 : Hid (Below w.heap.size w w1) := hb1
  clear hb1 KS
  cases ss with
  | false =>
    have HQ : Hid (R = ⟨#[]⟩) := HN.out rfl
    go_wp2
    go_ret
    exact ⟨ret_text HQ.out.symm, B1.out⟩
  | true =>
    have HQ : Hid (R = textTo L L.length) := HY.out rfl
    obtain ⟨h6, hfew⟩ := HFew.out rfl
    have HF2 : Hid (∀ j, j < L.length → 0 < (atS L j).2.length ∧ (atS L j).2.length ≤ 4 ∧ (atS L j).1.size ≤ 100 ∧ ∀ i, i < (atS L j).2.length → (atL (atS L j).2 i).size ≤ 100) := hfew
    have HLs : Hid (∀ j, j < L.length → (lineT (atS L j)).size ≤ 505) := fun j hj => lineT_size (hfew j hj).2.1 (hfew j hj).2.2.1 (hfew j hj).2.2.2
    have HTs : Hid (∀ k, k ≤ L.length → (textTo L k).size ≤ 506 * k) := textTo_size HLs.out
    have HT1 : Hid (∀ k, textTo L (k + 1) = textTo L k ++ ((atS L k).1 ++ ⟨#[58]⟩ ++ joinB (atS L k).2 ⟨#[44]⟩ ++ ⟨#[10]⟩)) := fun k => by
      show textTo L k ++ lineT (atS L k) ++ ⟨#[10]⟩ = _
      rw [lineT_join, ByteArray.append_assoc (a := textTo L k)]
    clear HFew HY HN hfew
    go_wp2
    go_loopw [5, 14] (fun t i wr => ∃ k : Nat, k ≤ L.length ∧ i = .int .i64 k ∧ t = .string (textTo L k) ∧ Hid (Below w.heap.size w wr)) (fun _ i _ => L.length - (intOf i).toNat)
    case atStart => exact ⟨0, Nat.zero_le _, rfl, rfl, B1⟩
    case round =>
      obtain ⟨k, hk, rfl, rfl, HB⟩ := hrel
      have hsz := HTs.out k hk
      by_cases hlt : k < L.length
      · obtain ⟨g, rfl, hgw, hc⟩ := HG.out (by omega)
        have c0 : wr.cell? ⟨g, k * 2, none⟩ = some (.string (atS L k).1) := ((bcell HB.out).1 _ _ hgw).trans (hc k hlt).1
        have c1 : wr.cell? ⟨g, k * 2 + 1, none⟩ = some (uu k) := ((bcell HB.out).1 _ _ hgw).trans (hc k hlt).2
        obtain ⟨up, uc, hup, huc⟩ := HC.out k hlt
        obtain ⟨x1, x2, x3, x4⟩ := HF2.out k hlt
        have hl := HLs.out k hlt
        have hj := join_size hl
        have SU := (HU.out k hlt).below HB.out
        rw [hup] at SU c1
        have KJ0 : ∀ W, Below wr.heap.size wr W → Calls Tryd.prog 73 #[.slice up (atS L k).2.length uc, .string ⟨#[44]⟩] W fun e w' => e = .returned (.string (joinB (atS L k).2 ⟨#[44]⟩)) ∧ Below W.heap.size W w' := fun W hb => join_slice (atS L k).2 up uc B' ⟨#[44]⟩ W (SU.below hb) x1 (by omega) huc (by omega)
        have HE := HT1.out k
        have HE1 : Hid (textTo L (k + 1) = textTo L k ++ ((atS L k).1 ++ ⟨#[58]⟩ ++ joinB (atS L k).2 ⟨#[44]⟩ ++ ⟨#[10]⟩)) := HE
        have k0 : (0 : Int) ≤ k := by omega
        have k1 : (k : Int) < L.length := by omega
        clear hc SU x1 x2 x4 hup huc HE hl
        generalize textTo L k = tk at *
        generalize joinB (atS L k).2 ⟨#[44]⟩ = jk at *
        generalize (atS L k).1 = pk at *
        generalize (atS L k).2.length = nk at *
        have s1 : (pk ++ (⟨#[58]⟩ : ByteArray)).size ≤ 200 := by rw [ByteArray.size_append]; show _ + 1 ≤ _; omega
        have s2 : (pk ++ (⟨#[58]⟩ : ByteArray) ++ jk).size ≤ 800 := by rw [ByteArray.size_append]; omega
        have s3 : (pk ++ (⟨#[58]⟩ : ByteArray) ++ jk ++ (⟨#[10]⟩ : ByteArray)).size ≤ 801 := by rw [ByteArray.size_append]; show _ + 1 ≤ _; omega
        have z1 : ¬ 9223372036854775807 < pk.size + 1 := by omega
        have z2 : ¬ 9223372036854775807 < pk.size + 1 + jk.size := by omega
        have z3 : ¬ 9223372036854775807 < pk.size + 1 + jk.size + 1 := by omega
        have z4 : ¬ 9223372036854775807 < tk.size + (pk.size + 1 + jk.size + 1) := by omega
        obtain ⟨W3, hW⟩ : ∃ W3, W3 = wr.alloc (.cells #[.string pk, .slice up nk uc] 47) := ⟨_, rfl⟩
        have hW3 : Hid (W3 = wr.alloc (.cells #[.string pk, .slice up nk uc] 47)) := hW
        have HB3 : Hid (Below wr.heap.size wr W3) := by show Below _ _ _; rw [hW]; exact (Below.refl _ _).alloc (Nat.le_refl _) _
        have d0 : W3.cell? ⟨wr.heap.size, 0, none⟩ = some (.string pk) := by rw [hW]; simp
        have d1 : W3.cell? ⟨wr.heap.size, 1, none⟩ = some (.slice up nk uc) := by rw [hW]; simp
        have hz3 : wr.heap.size < W3.heap.size := by rw [hW]; simp
        have KJ : Hid (∀ W, Below W3.heap.size W3 W → Calls Tryd.prog 73 #[.slice up nk uc, .string ⟨#[44]⟩] W fun e w' => e = .returned (.string jk) ∧ Below W.heap.size W w') := fun W hb => KJ0 W (HB3.out.trans (hb.mono HB3.out.size))
        have BW3 : Hid (Below w.heap.size w W3) := HB.out.trans (HB3.out.mono HB.out.size)
        clear hW KJ0 HB3
        go_upto_region 7 with fail
        rw [← hW3.out]
        clear hW3 c0 c1
        generalize hbb : wr.heap.size = b at *
        go_region_held3 (fun w' => w'.cell? ⟨b, 0, none⟩ = some (.string pk) ∧ w'.cell? ⟨b, 1, none⟩ = some (.slice up nk uc)) (go_keep)
          (first | (go_at_call 73; refine (KJ.out _ (Below.drew (Below.refl _ _))).mono ?_; rintro e w4 ⟨rfl, hb4⟩; have A4 : Below W3.heap.size W3 w4 := (Below.drew (Below.refl _ _)).trans hb4; have e0 : w4.cell? ⟨b, 0, none⟩ = some (.string pk) := ((bcell A4).1 _ _ hz3).trans d0; have e1 : w4.cell? ⟨b, 1, none⟩ = some (.slice up nk uc) := ((bcell A4).1 _ _ hz3).trans d1))
        have B4 : Hid (Below w.heap.size w w4) := BW3.out.trans (A4.mono BW3.out.size)
        clear hb4 A4
        go_wp2
        go_roundw
        case rel => exact ⟨k + 1, by omega, by go_num, by rw [HE1.out], B4⟩
        case measure => simp [intOf]; omega
      · obtain rfl : k = L.length := by omega
        go_wp2
        go_ret
        exact ⟨ret_text HQ.out.symm, HB.out⟩
end Go.Proofs.YtfoekelhcmlagaaDoor

/- The law FnExactSetsText, walked. -/
namespace Go.Proofs.YtfoekelhcmlagaaDoor
open Go.RowKit Go.Maps

set_option maxRecDepth 10000 in
set_option maxHeartbeats 4000000 in
theorem lawSetsText_any (a0 : Option Addr) (n cap0 : Nat) (f : Nat → ByteArray) (a1 : Option Addr) (cap1 : Nat) (L : List SetL) (w : World) (hG : MaxI w) (hE : ErrsI w) (hr0 : StrRow w a0 n f) (hn0 : n ≤ maxLen) (hr1 : SetRow w a1 L) (hn1 : L.length ≤ maxLen) :
    Calls Tryd.prog 5 #[.slice a0 n cap0, .slice a1 L.length cap1] w fun e w' => e = .returned (.bool true) ∧ Below w.heap.size w w' := by
  have HR0 : Hid (StrRow w a0 n f) := hr0
  have HR1 : Hid (SetRow w a1 L) := hr1
  have HG : Hid (MaxI w) := hG
  have HE : Hid (ErrsI w) := hE
  clear hr0 hr1 hG hE
  go_enter Tryd.func5, Tryd.ntmps5
  go_wp2_with fail
  refine (szStringS_any a0 n cap0 f 1048576 _ HR0.out hn0 (by decide) (by decide)).mono ?_
  rintro e w0 ⟨⟨r, rfl, hr⟩, rfl⟩
  rcases hr with hr | ⟨r0, r1, hl, hf⟩
  · go_wp2
    go_ret
    exact ⟨rfl, Below.refl _ _⟩
  have q : decide (r < 0) = false := by rw [decide_eq_false_iff_not]; omega
  have hl2 : n ≤ 1048576 := by omega
  have HF : Hid (∀ i, i < n → (f i).size ≤ 1048576) := fun i hi => by have := hf i hi; omega
  clear hf hl
  go_wp2_with fail
  refine (szSiteSetS_any a1 cap1 L r _ HR1.out hn1 r0 (by omega)).mono ?_
  rintro e w1 ⟨⟨r', rfl, hr'⟩, hb1⟩
  have B1 : Hid (Below w0.heap.size w0 w1) := hb1
  clear hb1 r0 r1
  rcases hr' with hr' | ⟨r0, r1, hL, hz⟩
  · go_wp2
    go_ret
    exact ⟨rfl, B1.out⟩
  have q' : decide (r' < 0) = false := by rw [decide_eq_false_iff_not]; omega
  have HZ : Hid (∀ i, i < L.length → szS (atS L i)) := hz
  clear hz r0 r1
  have KT0 : Hid (∀ W, Below w0.heap.size w0 W → Calls Tryd.prog 31 #[.slice a0 n cap0] W fun e w' => ∃ v, e = .returned v ∧ SliceS w' W.heap.size v n f ∧ Below W.heap.size W w') := fun W hb => toStringS_any a0 n cap0 f W (HR0.out.below hb) hl2
  have KT1 : Hid (∀ W, Below w0.heap.size w0 W → Calls Tryd.prog 32 #[.slice a1 L.length cap1] W fun e w' => ∃ v, e = .returned v ∧ SliceTC w' W.heap.size v L ∧ Below W.heap.size W w') := fun W hb => toSiteSetSC_any a1 cap1 L W (HR1.out.below hb) hL (fun i hi => (HZ.out i hi).2.1)
  have KS : Hid (∀ (v v' : Value) (B B' : Nat) (W : World), SliceS W B v n f → SliceTC W B' v' L → Calls Tryd.prog 36 #[v, v'] W fun e w' => e = .returned (.string (setsT n f L)) ∧ Below W.heap.size W w') := fun v v' B B' W a b => specSetsText_any v v' n B B' f L W a hl2 HF.out b.plain hL (fun j hj => (HZ.out j hj).2.1)
  have KI : Hid (∀ (v v' : Value) (B B' : Nat) (W : World), Below w0.heap.size w0 W → SliceS W B v n f → SliceTC W B' v' L → Calls Tryd.prog 37 #[v, v'] W fun e w' => e = .returned (.string (setsT n f L)) ∧ Below W.heap.size W w') := fun v v' B B' W hb a b => setsText_any v v' n B B' f L W (HG.out.on hb) (HE.out.below hb) a hl2 HF.out b hL HZ.out
  have KE1 : Hid (∀ (v v' : Value) (B B' : Nat) (W : World), SliceT W B v L → SliceT W B' v' L → Calls Tryd.prog 35 #[v, v'] W fun e w' => e = .returned (.bool true) ∧ Below W.heap.size W w') := fun v v' B B' W a b => eqSiteSetS_any v v' L B B' W a b hL (fun i hi => (HZ.out i hi).2.1)
  clear HG HE HF HZ HR0 HR1
  generalize setsT n f L = d at *
  go_wp2_with fail
  refine (KT0.out _ B1.out).mono ?_
  rintro e w2 ⟨v2, rfl, s2, hb2⟩
  have B2 : Hid (Below w0.heap.size w0 w2) := B1.out.trans (hb2.mono B1.out.size)
  have S2 : Hid (SliceS w2 w1.heap.size v2 n f) := s2
  clear s2 hb2
  go_wp2_with fail
  refine (KT1.out _ B2.out).mono ?_
  rintro e w3 ⟨v3, rfl, s3, hb3⟩
  have B3 : Hid (Below w0.heap.size w0 w3) := B2.out.trans (hb3.mono B2.out.size)
  have S2_3 : Hid (SliceS w3 w1.heap.size v2 n f) := S2.out.below hb3
  have S3 : Hid (SliceTC w3 w2.heap.size v3 L) := s3
  clear s3 hb3 S2
  go_wp2_with fail
  refine (KS.out _ _ _ _ _ S2_3.out S3.out).mono ?_
  rintro e w4 ⟨rfl, hb4⟩
  have B4 : Hid (Below w0.heap.size w0 w4) := B3.out.trans (hb4.mono B3.out.size)
  clear hb4 S2_3 S3 KS
  go_wp2_with fail
  refine (KT0.out _ B4.out).mono ?_
  rintro e w5 ⟨v5, rfl, s5, hb5⟩
  have B5 : Hid (Below w0.heap.size w0 w5) := B4.out.trans (hb5.mono B4.out.size)
  have S5 : Hid (SliceS w5 w4.heap.size v5 n f) := s5
  clear s5 hb5
  go_wp2_with fail
  refine (KT1.out _ B5.out).mono ?_
  rintro e w6 ⟨v6, rfl, s6, hb6⟩
  have B6 : Hid (Below w0.heap.size w0 w6) := B5.out.trans (hb6.mono B5.out.size)
  have S5_6 : Hid (SliceS w6 w4.heap.size v5 n f) := S5.out.below hb6
  have S6 : Hid (SliceTC w6 w5.heap.size v6 L) := s6
  clear s6 hb6 S5
  go_wp2_with fail
  refine (KI.out _ _ _ _ _ B6.out S5_6.out S6.out).mono ?_
  rintro e w7 ⟨rfl, hb7⟩
  have B7 : Hid (Below w0.heap.size w0 w7) := B6.out.trans (hb7.mono B6.out.size)
  have S5_7 : Hid (SliceS w7 w4.heap.size v5 n f) := S5_6.out.below hb7
  have S6_7 : Hid (SliceTC w7 w5.heap.size v6 L) := S6.out.below hb7
  clear hb7 S5_6 S6 KI
  go_wp2_with fail
  refine (KT0.out _ B7.out).mono ?_
  rintro e w8 ⟨v8, rfl, s8, hb8⟩
  have B8 : Hid (Below w0.heap.size w0 w8) := B7.out.trans (hb8.mono B7.out.size)
  have S5_8 := S5_7.out.below hb8
  have S6_8 : Hid (SliceTC w8 w5.heap.size v6 L) := S6_7.out.below hb8
  clear hb8
  go_wp2_with fail
  refine (eqStringS_any v5 v8 n _ _ f _ S5_8 s8 (by omega)).mono ?_
  rintro e w9 ⟨rfl, hb9⟩
  have B9 : Hid (Below w0.heap.size w0 w9) := B8.out.trans (hb9.mono B8.out.size)
  have S6_9 : Hid (SliceTC w9 w5.heap.size v6 L) := S6_8.out.below hb9
  clear hb9 S5_8 s8
  go_wp2_with fail
  refine (KT1.out _ B9.out).mono ?_
  rintro e w10 ⟨v10, rfl, s10, hb10⟩
  have B10 : Hid (Below w0.heap.size w0 w10) := B9.out.trans (hb10.mono B9.out.size)
  have S6_10 : Hid (SliceTC w10 w5.heap.size v6 L) := S6_9.out.below hb10
  clear hb10
  go_wp2_with fail
  refine (KE1.out _ _ _ _ _ S6_10.out.plain s10.plain).mono ?_
  rintro e w11 ⟨rfl, hb11⟩
  go_wp2
  go_ret
  exact ⟨rfl, B10.out.trans (hb11.mono B10.out.size)⟩
end Go.Proofs.YtfoekelhcmlagaaDoor

/- The lifting of a law's walk to a row that lists package-level variables, the world's shape kept; what the shape and the list give a walk. -/
namespace Go.Proofs.YtfoekelhcmlagaaDoor
open Go.RowKit

theorem Ld.own : ownKnob Tryd.prog.godebug = none := by kernel_rfl
theorem Ld.laidOut : laidOutB Tryd.prog = true := by kernel_rfl
set_option maxRecDepth 10000 in
theorem lift_laid {H : Type} {enc : TypeId × Value → H} {os : Os} {f : FuncId} {fn : Func} {s : ChangeSpec} {X : World → Prop} (hX : ∀ (w w' : World), w.heap = w'.heap → X w → X w')
    (started : os.Started) (noInit : Tryd.prog.inits.idxOf? f = none) (hfn : Tryd.prog.funcs[f]? = some fn)
    (start : ∃ (w : World) (tape : Tape) (i : Input), w.os = os ∧ (w.forCall tape i).Shaped Tryd.prog ∧ i.vars = [] ∧ Input.okWide Tryd.prog (w.forCall tape i) .any w.heap.size f i ∧
      ((s.pre enc Tryd.prog fn [] false (w.forCall tape i).memory i.args ∧ X (w.forCall tape i).memory) ∧ sizedMet enc Tryd.prog fn (OpenSpec.ofChange s) false (w.forCall tape i).memory i.args) ∧ Assume.holds {} Tryd.prog (lone (Frame.enter Tryd.prog f i.args .normal) [] (w.forCall tape i)))
    (walk : ∀ (W : World) (base : Nat) (args : Array Value) (ds gs : List (DataW H)) (before : List MemPlace),
      (∀ (j : Nat) t v, fn.params[j]? = some t → args[j]? = some v → Value.okWide Tryd.prog W .any base t v) →
      DataW.Whole enc Tryd.prog fn.params.toList s.vars false W args.toList ds gs before → X W → W.ShapedOpen Tryd.prog →
      Calls Tryd.prog f args W fun e W' => ∃ v, e = .returned v ∧ s.post enc Tryd.prog fn false true false false W args v W') :
    ReturnsInHanded {} Tryd.checked os f .any (fun w args => (s.pre enc Tryd.prog fn [] false w args ∧ X w) ∧ sizedMet enc Tryd.prog fn (OpenSpec.ofChange s) false w args) (s.post enc Tryd.prog fn false true false false) := by
  refine returnsInHanded_of_calls (C := Tryd.checked) Ld.own started noInit start ?_
  intro w tape i _ hsh _ hok hpre _
  obtain ⟨_, _, _, fn2, hfn2, _, _, _, _, hval⟩ := hok
  obtain rfl : fn2 = fn := Option.some.inj (hfn2.symm.trans hfn)
  obtain ⟨⟨⟨ds, gs, before, hw, _⟩, hx⟩, _⟩ := hpre
  have hw2 := DataW.Whole.of_heap (w' := w.forCall tape i) (by rfl) hw
  refine (walk (w.forCall tape i) w.heap.size i.args ds gs before hval hw2 (hX _ _ (by rfl) hx) hsh).mono fun e W' ⟨v, he, hp⟩ => ?_
  subst he
  exact ChangeSpec.post_blind hp
set_option maxRecDepth 10000 in
theorem maxI_of_shape {W : World} (h : W.ShapedOpen Tryd.prog) : MaxI W := Tryd.lays146.s1_3 W h
end Go.Proofs.YtfoekelhcmlagaaDoor

/- What a row's list of package-level variables gives a walk: the program's words of kinds, the library's two errors; a listed variable that reads behind the call as before it. -/
namespace Go.Proofs.YtfoekelhcmlagaaDoor
open Go.RowKit Go.ChangeShapes

theorem plain_of {l : List (String × DataW Unit)} {W : World} (hh : (l.all fun x => x.2.handleName?.isNone) = true) (h : laidMetH Tryd.prog l W) : laidMet Tryd.prog l W := by
  rw [MakeChecks.laidMetH_plain _ _ _ hh] at h; exact h
/-- a listed variable of an interface type holds a value of some type -/
theorem iface_of_met {P : Program} {W : World} {n nm : String} {d : DataW Unit} {r : List (String × DataW Unit)} {g : Nat} {ti : TypeId} {ms : Array (String × TypeId)} (h : laidMet P ((n, .iface nm d) :: r) W)
    (hg : P.globalNamed n = some g) (ht : (P.globals[g]?).map (·.type) = some ti) (hi : P.underlying ti = some (.interface ms)) : ∃ u v, W.cell? ⟨g, 0, none⟩ = some (.iface u v) := by
  obtain ⟨ps, ⟨g0, t0, cs0, f0, p0, q0, hg0, ht0, hv0, hd0, _, _⟩, _, _⟩ := h
  obtain rfl := Option.some.inj (hg.symm.trans hg0)
  obtain rfl := Option.some.inj (ht.symm.trans ht0)
  obtain ⟨_, u, v, hc, _, _⟩ := iface_of_trod hi hd0
  refine ⟨u, v, ?_⟩
  rw [World.var?_cell hg0 hv0 0, ← Array.getElem?_toList, hc]
  rfl
/-- one listed variable reads on -/
theorem vars_on {H : Type} {enc : TypeId × Value → H} {n : String} {g : Nat} {t : TypeId} {cs : Array Value} {fuel : Nat} {d : DataW H} {p : List MemPlace} {W W' : World}
    (hr : Tryd.prog.readableRec t = true) (hrow : t < Tryd.prog.types.size) (hg : Tryd.prog.globalNamed n = some g) (ht : (Tryd.prog.globals[g]?).map (·.type) = some t) (hv : W.var? Tryd.prog n = some cs) (hlt : g < W.heap.size)
    (hd : DataW.trod enc Tryd.prog W 0 (fun _ => true) true fuel t cs.toList = some (d, p)) (hb : Below W.heap.size W W') :
    DataW.TrodVars enc Tryd.prog W' (fun b => decide (b < W.heap.size)) [n] [d] (MemPlace.row ⟨g, 0, none⟩ cs.size ++ p) := by
  have k : DataW.Trod enc Tryd.prog W 0 (fun _ => true) true t (.agg cs) d p := ⟨fuel, hd⟩
  obtain ⟨f', hd'⟩ := Below.trod Ld.laidOut hr hrow k hb (DataW.trod_lt fuel _ _ _ hd)
  exact trodVars_mk1 hg ht (var?_below hb hg hlt hv) hd'
theorem var_lt {P : Program} {W : World} {n : String} {g : Nat} {cs : Array Value} (hg : P.globalNamed n = some g) (hv : W.var? P n = some cs) : g < W.heap.size := by
  unfold World.var? at hv
  simp only [hg, Option.bind_some] at hv
  by_cases h : g < W.heap.size
  · exact h
  · rw [Array.getElem?_eq_none (by omega)] at hv; simp at hv
end Go.Proofs.YtfoekelhcmlagaaDoor
