/- The walk of the specification's l03Of: a right host's suffix and domain. -/
import Derived.Test.YtddlnbmkknbegaaDoorSpecCount
import Derived.Test.YtddlnbmkknbegaaDoorSpecTail
import Derived.Laws.ResultCell
namespace Go.Proofs.YtddlnbmkknbegaaDoor
open Go.RowKit

theorem fitR_len {s : ByteArray} {m : Nat} {h : Nat → ByteArray} (e : fitR s m h = true) : (ruleL s).length ≤ m := by
  unfold fitR fitsB at e
  rw [Bool.and_eq_true, decide_eq_true_eq] at e
  exact e.1
theorem cntTo_le (f : Nat → ByteArray) {m : Nat} (h : Nat → ByteArray) (hm : 1 ≤ m) : ∀ i, (cntTo f m h i).1 ≤ m ∧ (cntTo f m h i).2 ≤ m
  | 0 => ⟨hm, Nat.zero_le _⟩
  | i + 1 => by
    obtain ⟨h1, h2⟩ := cntTo_le f h hm i
    rw [cntTo]
    split
    · rename_i hf
      have := fitR_len hf
      split
      · exact ⟨h1, by show max _ _ ≤ m; omega⟩
      · exact ⟨by show max _ _ ≤ m; omega, h2⟩
    · exact ⟨h1, h2⟩
theorem countN_le (n : Nat) (f : Nat → ByteArray) {m : Nat} (h : Nat → ByteArray) (hm : 1 ≤ m) : countN n f m h ≤ m := by
  obtain ⟨h1, h2⟩ := cntTo_le f h hm n
  unfold countN
  split
  · omega
  · exact h1
/-- how many labels are the suffix -/
def sufC (n : Nat) (f : Nat → ByteArray) (s : ByteArray) : Nat := countN n f (splitB s 46).length (atL (splitB s 46))
def sufS (n : Nat) (f : Nat → ByteArray) (s : ByteArray) : ByteArray := tailN (atL (splitB s 46)) ((splitB s 46).length - sufC n f s) (sufC n f s)
def sufD (n : Nat) (f : Nat → ByteArray) (s : ByteArray) : ByteArray := if sufC n f s < (splitB s 46).length then tailN (atL (splitB s 46)) ((splitB s 46).length - (sufC n f s + 1)) (sufC n f s + 1) else ⟨#[]⟩
/-- two empty cells of an answer -/
def U2 (w : World) (b : Nat) : Prop := b < w.heap.size ∧ w.cell? ⟨b, 0, none⟩ = some (.string ⟨#[]⟩) ∧ w.cell? ⟨b, 1, none⟩ = some (.string ⟨#[]⟩) ∧ ∀ o, w.frozen? ⟨b, o, none⟩ = false
theorem U2.below {w w' : World} {b : Nat} (h : U2 w b) (hb : Below w.heap.size w w') : U2 w' b := by
  obtain ⟨hz, c0, c1, hf⟩ := h
  exact ⟨Nat.lt_of_lt_of_le hz hb.size, ((bcell hb).1 _ _ hz).trans c0, ((bcell hb).1 _ _ hz).trans c1, fun o => ((bcell hb).2 _ _ hz).trans (hf o)⟩
/-- a SuffixOut, as a value -/
def sufV (a b : ByteArray) : Value := .agg #[.string a, .string b]
theorem splitTo_small (s : ByteArray) (c : Nat) : ∀ i, ∀ x ∈ (splitTo s c i).1, x.size ≤ s.size
  | 0, x, h => by cases h
  | i + 1, x, h => by
    rw [splitTo] at h
    split at h
    · split at h
      · rw [List.mem_append] at h
        rcases h with h | h
        · exact splitTo_small s c i x h
        · rw [List.mem_singleton] at h
          rw [h, ByteArray.size_extract]; omega
      · exact splitTo_small s c i x h
    · exact splitTo_small s c i x h
theorem piece_small {s : ByteArray} (hs : s.size ≤ 100) : ∀ i, i < (splitB s 46).length → (atL (splitB s 46) i).size ≤ 100 := by
  intro i hi
  have e : atL (splitB s 46) i = (splitB s 46)[i] := by simp [atL, hi]
  rw [e]
  have : (splitB s 46)[i] ∈ splitB s 46 := List.getElem_mem hi
  unfold splitB at this
  rw [List.mem_append] at this
  rcases this with h | h
  · exact Nat.le_trans (splitTo_small s 46 s.size _ h) hs
  · rw [List.mem_singleton] at h
    have h2 : (splitB s 46)[i] = s.extract (splitTo s 46 s.size).2 s.size := h
    rw [h2, ByteArray.size_extract]; omega

set_option maxRecDepth 10000 in
set_option maxHeartbeats 2000000 in
theorem specOf_any (v : Value) (n B : Nat) (f : Nat → ByteArray) (s : ByteArray) (w : World) (hs : SliceS w B v n f) (l1 : n ≤ 1048576) (hf : ∀ i, i < n → 0 < (f i).size ∧ (f i).size ≤ 1000) (hz : s.size ≤ 100) :
    Calls Tryd.prog 42 #[v, .string s] w fun e w' => e = .returned (sufV (sufS n f s) (sufD n f s)) ∧ Below w.heap.size w w' := by
  have HSl : Hid (SliceS w B v n f) := hs
  have HP := piece_small hz
  have hm := splitB_len s 46
  obtain ⟨m0, hm0⟩ := splitB_ne s 46
  have HC : Hid (∀ W, Calls Tryd.prog 48 #[.string s, .int .u8 46] W fun e w' => ∃ v, e = .returned v ∧ w'.ownsRow W.heap.size 9 1 v (splitB s 46).length (strCells (splitB s 46)) ∧ Below W.heap.size W w') := fun W => split_any s 46 W (by omega)
  have hle : sufC n f s ≤ (splitB s 46).length := countN_le n f _ (by omega)
  have ES : Hid (sufS n f s = tailN (atL (splitB s 46)) ((splitB s 46).length - sufC n f s) (sufC n f s)) := rfl
  have ED : Hid (sufD n f s = if sufC n f s < (splitB s 46).length then tailN (atL (splitB s 46)) ((splitB s 46).length - (sufC n f s + 1)) (sufC n f s + 1) else ⟨#[]⟩) := rfl
  have EC : Hid (∀ (v2 : Value) (B2 : Nat) (W : World), SliceS W B v n f → SliceS W B2 v2 (splitB s 46).length (atL (splitB s 46)) → Calls Tryd.prog 68 #[v, v2] W fun e w' => e = .returned (.int .i64 (sufC n f s : Nat)) ∧ Below W.heap.size W w') := fun v2 B2 W a b => specCount_any v v2 n _ B B2 f _ W a b l1 (by omega) hf
  clear hs hf hm0
  generalize sufC n f s = c at *
  generalize sufS n f s = sS at *
  generalize sufD n f s = sD at *
  go_enter Tryd.func42, Tryd.ntmps42
  go_wp2_with fail
  refine (HC.out _).mono ?_
  rintro e w1 ⟨vL, rfl, ho, hb1⟩
  have sl := slice_of_own ho
  have B1' : Hid (Below w.heap.size w w1) := ((Below.refl _ _).alloc (Nat.le_refl _) _).trans (hb1.mono (by simp))
  have r1 : U2 w1 w.heap.size := ⟨by have := hb1.size; simp at this; omega, by rw [(bcell hb1).1 _ _ (by simp)]; simp, by rw [(bcell hb1).1 _ _ (by simp)]; simp, fun o => by rw [(bcell hb1).2 _ _ (by simp)]; simp⟩
  have SL1 : Hid (SliceS w1 (w.alloc (.cells #[.string ⟨#[]⟩, .string ⟨#[]⟩] 35)).heap.size vL (splitB s 46).length (atL (splitB s 46))) := sl
  clear ho hb1
  generalize (splitB s 46).length = m at *
  generalize atL (splitB s 46) = h at *
  go_wp2_with fail
  refine (EC.out vL _ w1 (HSl.out.below B1'.out) sl).mono ?_
  rintro e w2 ⟨rfl, hb2⟩
  have SL2 := SL1.out.below hb2
  have r2 := r1.below hb2
  have B2' : Hid (Below w.heap.size w w2) := B1'.out.trans (hb2.mono B1'.out.size)
  clear hb2 sl SL1 r1 EC HC
  obtain ⟨d, rfl⟩ : ∃ d, m = d + c := ⟨m - c, by omega⟩
  rw [Nat.add_sub_cancel] at ES
  have HPP : Hid (∀ i, i < d + c → (h i).size ≤ 100) := HP
  have KT := specTail_any vL d c _ h w2 SL2 (by omega) HP
  rw [← ES.out] at KT
  have SLH : Hid (SliceS w2 (w.alloc (.cells #[.string ⟨#[]⟩, .string ⟨#[]⟩] 35)).heap.size vL (d + c) h) := SL2
  obtain ⟨pv, cv, rfl, -⟩ := SL2
  have KT1 : Hid (Calls Tryd.prog 69 #[.slice pv (d + c) cv, .int .i64 c] w2 fun e w' => e = .returned (.string sS) ∧ w' = w2) := KT
  clear KT HP ES
  obtain ⟨hz2, x0, x1, xf⟩ := r2
  by_cases hd : d = 0
  · have q : decide ((c : Int) < (d : Int) + (c : Int)) = false := by rw [decide_eq_false_iff_not]; omega
    have HD : Hid (sD = ⟨#[]⟩) := by show _ = _; rw [ED.out, if_neg (by omega)]
    clear hd ED
    go_wp2_with (go_at_call 69; refine KT1.out.mono ?_; rintro e w3 ⟨rfl, rfl⟩)
    have y0 : (((w3.setCell ⟨w.heap.size, 0, none⟩ (.string sS)).setCell ⟨w.heap.size, 1, none⟩ (.string ⟨#[]⟩)).alloc (.cells #[.string sS, .string ⟨#[]⟩] 35)).cell? ⟨w.heap.size, 0, none⟩ = some (.string sS) := by
      rw [World.cell?_alloc_lt _ _ _ (by simpa [World.setCell] using hz2), World.cell?_setCell_other _ _ _ _ (by simp)]
      exact World.cell?_setCell_same _ _ _ x0
    have y1 : (((w3.setCell ⟨w.heap.size, 0, none⟩ (.string sS)).setCell ⟨w.heap.size, 1, none⟩ (.string ⟨#[]⟩)).alloc (.cells #[.string sS, .string ⟨#[]⟩] 35)).cell? ⟨w.heap.size, 1, none⟩ = some (.string ⟨#[]⟩) := by
      rw [World.cell?_alloc_lt _ _ _ (by simpa [World.setCell] using hz2)]
      exact World.cell?_setCell_same _ _ _ ((World.cell?_setCell_other _ _ _ _ (by simp)).trans x1)
    have yb : Below w.heap.size w (((w3.setCell ⟨w.heap.size, 0, none⟩ (.string sS)).setCell ⟨w.heap.size, 1, none⟩ (.string ⟨#[]⟩)).alloc (.cells #[.string sS, .string ⟨#[]⟩] 35)) := ((B2'.out.setCell (Nat.le_refl _) _).setCell (Nat.le_refl _) _).alloc (by simp [World.setCell]; omega) _
    generalize ((w3.setCell ⟨w.heap.size, 0, none⟩ (.string sS)).setCell ⟨w.heap.size, 1, none⟩ (.string ⟨#[]⟩)).alloc (.cells #[.string sS, .string ⟨#[]⟩] 35) = W at *
    exact bodyPost_ret (v := sufV sS ⟨#[]⟩) (by simp [sufV, results, Tryd.results42, go_sem, y0, y1]) rfl ⟨by rw [HD.out], yb⟩
  · obtain ⟨e, rfl⟩ : ∃ e, d = e + 1 := ⟨d - 1, by omega⟩
    have q : decide ((c : Int) < (e : Int) + 1 + (c : Int)) = true := by rw [decide_eq_true_iff]; omega
    have hsum : e + 1 + c = e + (c + 1) := by omega
    have KD := fun W (a : SliceS W (w.alloc (.cells #[.string ⟨#[]⟩, .string ⟨#[]⟩] 35)).heap.size (.slice pv (e + 1 + c) cv) (e + 1 + c) h) => specTail_any (.slice pv (e + 1 + c) cv) e (c + 1) _ h W (by rw [← hsum]; exact a) (by omega) (by rw [← hsum]; exact HPP.out)
    have HD : Hid (sD = tailN h e (c + 1)) := by show _ = _; rw [ED.out, if_pos (by omega), show e + 1 + c - (c + 1) = e by omega]
    rw [← HD.out] at KD
    have KD1 : Hid (∀ o, Calls Tryd.prog 69 #[.slice pv (e + 1 + c) cv, .int .i64 ((c : Int) + 1)] (w2.alloc o) fun e w' => e = .returned (.string sD) ∧ w' = w2.alloc o) := fun o => KD _ (SLH.out.below ((Below.refl _ _).alloc (Nat.le_refl _) _))
    clear hd ED KD hsum HPP SLH HD
    go_wp2_with fail
    refine KT1.out.mono ?_
    rintro e w3 ⟨rfl, rfl⟩
    go_wp2_with fail
    refine (KD1.out _).mono ?_
    rintro e w4 ⟨rfl, rfl⟩
    go_wp2
    have y0 : (((w3.setCell ⟨w.heap.size, 0, none⟩ (.string sS)).setCell ⟨w.heap.size, 1, none⟩ (.string sD)).alloc (.cells #[.string sS, .string sD] 35)).cell? ⟨w.heap.size, 0, none⟩ = some (.string sS) := by
      rw [World.cell?_alloc_lt _ _ _ (by simpa [World.setCell] using hz2), World.cell?_setCell_other _ _ _ _ (by simp)]
      exact World.cell?_setCell_same _ _ _ x0
    have y1 : (((w3.setCell ⟨w.heap.size, 0, none⟩ (.string sS)).setCell ⟨w.heap.size, 1, none⟩ (.string sD)).alloc (.cells #[.string sS, .string sD] 35)).cell? ⟨w.heap.size, 1, none⟩ = some (.string sD) := by
      rw [World.cell?_alloc_lt _ _ _ (by simpa [World.setCell] using hz2)]
      exact World.cell?_setCell_same _ _ _ ((World.cell?_setCell_other _ _ _ _ (by simp)).trans x1)
    have yb : Below w.heap.size w (((w3.setCell ⟨w.heap.size, 0, none⟩ (.string sS)).setCell ⟨w.heap.size, 1, none⟩ (.string sD)).alloc (.cells #[.string sS, .string sD] 35)) := ((B2'.out.setCell (Nat.le_refl _) _).setCell (Nat.le_refl _) _).alloc (by simp [World.setCell]; omega) _
    generalize ((w3.setCell ⟨w.heap.size, 0, none⟩ (.string sS)).setCell ⟨w.heap.size, 1, none⟩ (.string sD)).alloc (.cells #[.string sS, .string sD] 35) = W at *
    exact bodyPost_ret (v := sufV sS sD) (by simp [sufV, results, Tryd.results42, go_sem, y0, y1]) rfl ⟨rfl, yb⟩
end Go.Proofs.YtddlnbmkknbegaaDoor
