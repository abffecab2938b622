/- 12 of this claim's texts, one behind the other. -/
import Derived.Test.YtddlnbmkknbegaaDoorPart1
import Derived.Laws.ResultCell
import Derived.Deep.LoopGhost
import Derived.WalkKit
import Derived.WalkSpells
import Derived.WalkLawsBesides
import Derived.Laws.RangeAny
import Derived.Maps.AppendAt
/- The walk of the specification's l03Of: a right host's suffix and domain. -/
namespace Go.Proofs.YtddlnbmkknbegaaDoor
open Go.RowKit

theorem fitR_len {s : ByteArray} {m : Nat} {h : Nat → ByteArray} (e : fitR s m h = true) : (ruleL s).length ≤ m := by
  unfold fitR fitsB at e
  rw [Bool.and_eq_true, decide_eq_true_eq] at e
  exact e.1
theorem cntTo_le (f : Nat → ByteArray) {m : Nat} (h : Nat → ByteArray) (hm : 1 ≤ m) : ∀ i, (cntTo f m h i).1 ≤ m ∧ (cntTo f m h i).2 ≤ m
  | 0 => ⟨hm, Nat.zero_le _⟩
  | i + 1 => by
    obtain ⟨h1, h2⟩ := cntTo_le f h hm i
    rw [cntTo]
    split
    · rename_i hf
      have := fitR_len hf
      split
      · exact ⟨h1, by show max _ _ ≤ m; omega⟩
      · exact ⟨by show max _ _ ≤ m; omega, h2⟩
    · exact ⟨h1, h2⟩
theorem countN_le (n : Nat) (f : Nat → ByteArray) {m : Nat} (h : Nat → ByteArray) (hm : 1 ≤ m) : countN n f m h ≤ m := by
  obtain ⟨h1, h2⟩ := cntTo_le f h hm n
  unfold countN
  split
  · omega
  · exact h1
/-- how many labels are the suffix -/
def sufC (n : Nat) (f : Nat → ByteArray) (s : ByteArray) : Nat := countN n f (splitB s 46).length (atL (splitB s 46))
def sufS (n : Nat) (f : Nat → ByteArray) (s : ByteArray) : ByteArray := tailN (atL (splitB s 46)) ((splitB s 46).length - sufC n f s) (sufC n f s)
def sufD (n : Nat) (f : Nat → ByteArray) (s : ByteArray) : ByteArray := if sufC n f s < (splitB s 46).length then tailN (atL (splitB s 46)) ((splitB s 46).length - (sufC n f s + 1)) (sufC n f s + 1) else ⟨#[]⟩
/-- two empty cells of an answer -/
def U2 (w : World) (b : Nat) : Prop := b < w.heap.size ∧ w.cell? ⟨b, 0, none⟩ = some (.string ⟨#[]⟩) ∧ w.cell? ⟨b, 1, none⟩ = some (.string ⟨#[]⟩) ∧ ∀ o, w.frozen? ⟨b, o, none⟩ = false
theorem U2.below {w w' : World} {b : Nat} (h : U2 w b) (hb : Below w.heap.size w w') : U2 w' b := by
  obtain ⟨hz, c0, c1, hf⟩ := h
  exact ⟨Nat.lt_of_lt_of_le hz hb.size, ((bcell hb).1 _ _ hz).trans c0, ((bcell hb).1 _ _ hz).trans c1, fun o => ((bcell hb).2 _ _ hz).trans (hf o)⟩
/-- a SuffixOut, as a value -/
def sufV (a b : ByteArray) : Value := .agg #[.string a, .string b]
theorem splitTo_small (s : ByteArray) (c : Nat) : ∀ i, ∀ x ∈ (splitTo s c i).1, x.size ≤ s.size
  | 0, x, h => by cases h
  | i + 1, x, h => by
    rw [splitTo] at h
    split at h
    · split at h
      · rw [List.mem_append] at h
        rcases h with h | h
        · exact splitTo_small s c i x h
        · rw [List.mem_singleton] at h
          rw [h, ByteArray.size_extract]; omega
      · exact splitTo_small s c i x h
    · exact splitTo_small s c i x h
theorem piece_small {s : ByteArray} (hs : s.size ≤ 100) : ∀ i, i < (splitB s 46).length → (atL (splitB s 46) i).size ≤ 100 := by
  intro i hi
  have e : atL (splitB s 46) i = (splitB s 46)[i] := by simp [atL, hi]
  rw [e]
  have : (splitB s 46)[i] ∈ splitB s 46 := List.getElem_mem hi
  unfold splitB at this
  rw [List.mem_append] at this
  rcases this with h | h
  · exact Nat.le_trans (splitTo_small s 46 s.size _ h) hs
  · rw [List.mem_singleton] at h
    have h2 : (splitB s 46)[i] = s.extract (splitTo s 46 s.size).2 s.size := h
    rw [h2, ByteArray.size_extract]; omega

set_option maxRecDepth 10000 in
set_option maxHeartbeats 2000000 in
theorem specOf_any (v : Value) (n B : Nat) (f : Nat → ByteArray) (s : ByteArray) (w : World) (hs : SliceS w B v n f) (l1 : n ≤ 1048576) (hf : ∀ i, i < n → 0 < (f i).size ∧ (f i).size ≤ 1000) (hz : s.size ≤ 100) :
    Calls Tryd.prog 42 #[v, .string s] w fun e w' => e = .returned (sufV (sufS n f s) (sufD n f s)) ∧ Below w.heap.size w w' := by
  have HSl : Hid (SliceS w B v n f) := hs
  have HP := piece_small hz
  have hm := splitB_len s 46
  obtain ⟨m0, hm0⟩ := splitB_ne s 46
  have HC : Hid (∀ W, Calls Tryd.prog 48 #[.string s, .int .u8 46] W fun e w' => ∃ v, e = .returned v ∧ w'.ownsRow W.heap.size 9 1 v (splitB s 46).length (strCells (splitB s 46)) ∧ Below W.heap.size W w') := fun W => split_any s 46 W (by omega)
  have hle : sufC n f s ≤ (splitB s 46).length := countN_le n f _ (by omega)
  have ES : Hid (sufS n f s = tailN (atL (splitB s 46)) ((splitB s 46).length - sufC n f s) (sufC n f s)) := rfl
  have ED : Hid (sufD n f s = if sufC n f s < (splitB s 46).length then tailN (atL (splitB s 46)) ((splitB s 46).length - (sufC n f s + 1)) (sufC n f s + 1) else ⟨#[]⟩) := rfl
  have EC : Hid (∀ (v2 : Value) (B2 : Nat) (W : World), SliceS W B v n f → SliceS W B2 v2 (splitB s 46).length (atL (splitB s 46)) → Calls Tryd.prog 68 #[v, v2] W fun e w' => e = .returned (.int .i64 (sufC n f s : Nat)) ∧ Below W.heap.size W w') := fun v2 B2 W a b => specCount_any v v2 n _ B B2 f _ W a b l1 (by omega) hf
  clear hs hf hm0
  generalize sufC n f s = c at *
  generalize sufS n f s = sS at *
  generalize sufD n f s = sD at *
  go_enter Tryd.func42, Tryd.ntmps42
  go_wp2_with fail
  refine (HC.out _).mono ?_
  rintro e w1 ⟨vL, rfl, ho, hb1⟩
  have sl := slice_of_own ho
  have B1' : Hid (Below w.heap.size w w1) := ((Below.refl _ _).alloc (Nat.le_refl _) _).trans (hb1.mono (by simp))
  have r1 : U2 w1 w.heap.size := ⟨by have := hb1.size; simp at this; omega, by rw [(bcell hb1).1 _ _ (by simp)]; simp, by rw [(bcell hb1).1 _ _ (by simp)]; simp, fun o => by rw [(bcell hb1).2 _ _ (by simp)]; simp⟩
  have SL1 : Hid (SliceS w1 (w.alloc (.cells #[.string ⟨#[]⟩, .string ⟨#[]⟩] 35)).heap.size vL (splitB s 46).length (atL (splitB s 46))) := sl
  clear ho hb1
  generalize (splitB s 46).length = m at *
  generalize atL (splitB s 46) = h at *
  go_wp2_with fail
  refine (EC.out vL _ w1 (HSl.out.below B1'.out) sl).mono ?_
  rintro e w2 ⟨rfl, hb2⟩
  have SL2 := SL1.out.below hb2
  have r2 := r1.below hb2
  have B2' : Hid (Below w.heap.size w w2) := B1'.out.trans (hb2.mono B1'.out.size)
  clear hb2 sl SL1 r1 EC HC
  obtain ⟨d, rfl⟩ : ∃ d, m = d + c := ⟨m - c, by omega⟩
  rw [Nat.add_sub_cancel] at ES
  have HPP : Hid (∀ i, i < d + c → (h i).size ≤ 100) := HP
  have KT := specTail_any vL d c _ h w2 SL2 (by omega) HP
  rw [← ES.out] at KT
  have SLH : Hid (SliceS w2 (w.alloc (.cells #[.string ⟨#[]⟩, .string ⟨#[]⟩] 35)).heap.size vL (d + c) h) := SL2
  obtain ⟨pv, cv, rfl, -⟩ := SL2
  have KT1 : Hid (Calls Tryd.prog 69 #[.slice pv (d + c) cv, .int .i64 c] w2 fun e w' => e = .returned (.string sS) ∧ w' = w2) := KT
  clear KT HP ES
  obtain ⟨hz2, x0, x1, xf⟩ := r2
  by_cases hd : d = 0
  · have q : decide ((c : Int) < (d : Int) + (c : Int)) = false := by rw [decide_eq_false_iff_not]; omega
    have HD : Hid (sD = ⟨#[]⟩) := by show _ = _; rw [ED.out, if_neg (by omega)]
    clear hd ED
    go_wp2_with (go_at_call 69; refine KT1.out.mono ?_; rintro e w3 ⟨rfl, rfl⟩)
    have y0 : (((w3.setCell ⟨w.heap.size, 0, none⟩ (.string sS)).setCell ⟨w.heap.size, 1, none⟩ (.string ⟨#[]⟩)).alloc (.cells #[.string sS, .string ⟨#[]⟩] 35)).cell? ⟨w.heap.size, 0, none⟩ = some (.string sS) := by
      rw [World.cell?_alloc_lt _ _ _ (by simpa [World.setCell] using hz2), World.cell?_setCell_other _ _ _ _ (by simp)]
      exact World.cell?_setCell_same _ _ _ x0
    have y1 : (((w3.setCell ⟨w.heap.size, 0, none⟩ (.string sS)).setCell ⟨w.heap.size, 1, none⟩ (.string ⟨#[]⟩)).alloc (.cells #[.string sS, .string ⟨#[]⟩] 35)).cell? ⟨w.heap.size, 1, none⟩ = some (.string ⟨#[]⟩) := by
      rw [World.cell?_alloc_lt _ _ _ (by simpa [World.setCell] using hz2)]
      exact World.cell?_setCell_same _ _ _ ((World.cell?_setCell_other _ _ _ _ (by simp)).trans x1)
    have yb : Below w.heap.size w (((w3.setCell ⟨w.heap.size, 0, none⟩ (.string sS)).setCell ⟨w.heap.size, 1, none⟩ (.string ⟨#[]⟩)).alloc (.cells #[.string sS, .string ⟨#[]⟩] 35)) := ((B2'.out.setCell (Nat.le_refl _) _).setCell (Nat.le_refl _) _).alloc (by simp [World.setCell]; omega) _
    generalize ((w3.setCell ⟨w.heap.size, 0, none⟩ (.string sS)).setCell ⟨w.heap.size, 1, none⟩ (.string ⟨#[]⟩)).alloc (.cells #[.string sS, .string ⟨#[]⟩] 35) = W at *
    exact bodyPost_ret (v := sufV sS ⟨#[]⟩) (by simp [sufV, results, Tryd.results42, go_sem, y0, y1]) rfl ⟨by rw [HD.out], yb⟩
  · obtain ⟨e, rfl⟩ : ∃ e, d = e + 1 := ⟨d - 1, by omega⟩
    have q : decide ((c : Int) < (e : Int) + 1 + (c : Int)) = true := by rw [decide_eq_true_iff]; omega
    have hsum : e + 1 + c = e + (c + 1) := by omega
    have KD := fun W (a : SliceS W (w.alloc (.cells #[.string ⟨#[]⟩, .string ⟨#[]⟩] 35)).heap.size (.slice pv (e + 1 + c) cv) (e + 1 + c) h) => specTail_any (.slice pv (e + 1 + c) cv) e (c + 1) _ h W (by rw [← hsum]; exact a) (by omega) (by rw [← hsum]; exact HPP.out)
    have HD : Hid (sD = tailN h e (c + 1)) := by show _ = _; rw [ED.out, if_pos (by omega), show e + 1 + c - (c + 1) = e by omega]
    rw [← HD.out] at KD
    have KD1 : Hid (∀ o, Calls Tryd.prog 69 #[.slice pv (e + 1 + c) cv, .int .i64 ((c : Int) + 1)] (w2.alloc o) fun e w' => e = .returned (.string sD) ∧ w' = w2.alloc o) := fun o => KD _ (SLH.out.below ((Below.refl _ _).alloc (Nat.le_refl _) _))
    clear hd ED KD hsum HPP SLH HD
    go_wp2_with fail
    refine KT1.out.mono ?_
    rintro e w3 ⟨rfl, rfl⟩
    go_wp2_with fail
    refine (KD1.out _).mono ?_
    rintro e w4 ⟨rfl, rfl⟩
    go_wp2
    have y0 : (((w3.setCell ⟨w.heap.size, 0, none⟩ (.string sS)).setCell ⟨w.heap.size, 1, none⟩ (.string sD)).alloc (.cells #[.string sS, .string sD] 35)).cell? ⟨w.heap.size, 0, none⟩ = some (.string sS) := by
      rw [World.cell?_alloc_lt _ _ _ (by simpa [World.setCell] using hz2), World.cell?_setCell_other _ _ _ _ (by simp)]
      exact World.cell?_setCell_same _ _ _ x0
    have y1 : (((w3.setCell ⟨w.heap.size, 0, none⟩ (.string sS)).setCell ⟨w.heap.size, 1, none⟩ (.string sD)).alloc (.cells #[.string sS, .string sD] 35)).cell? ⟨w.heap.size, 1, none⟩ = some (.string sD) := by
      rw [World.cell?_alloc_lt _ _ _ (by simpa [World.setCell] using hz2)]
      exact World.cell?_setCell_same _ _ _ ((World.cell?_setCell_other _ _ _ _ (by simp)).trans x1)
    have yb : Below w.heap.size w (((w3.setCell ⟨w.heap.size, 0, none⟩ (.string sS)).setCell ⟨w.heap.size, 1, none⟩ (.string sD)).alloc (.cells #[.string sS, .string sD] 35)) := ((B2'.out.setCell (Nat.le_refl _) _).setCell (Nat.le_refl _) _).alloc (by simp [World.setCell]; omega) _
    generalize ((w3.setCell ⟨w.heap.size, 0, none⟩ (.string sS)).setCell ⟨w.heap.size, 1, none⟩ (.string sD)).alloc (.cells #[.string sS, .string sD] 35) = W at *
    exact bodyPost_ret (v := sufV sS sD) (by simp [sufV, results, Tryd.results42, go_sem, y0, y1]) rfl ⟨rfl, yb⟩
end Go.Proofs.YtddlnbmkknbegaaDoor

/- The rules apart; the fitting one of most labels begins first; so the suffix's labels are those that the specification counts. -/
namespace Go.Proofs.YtddlnbmkknbegaaDoor

/-- of the first i rules those with an exclamation mark, which is taken off -/
def exL (f : Nat → ByteArray) : Nat → List ByteArray
  | 0 => []
  | i + 1 => if bangB (f i) = true then exL f i ++ [unbang (f i)] else exL f i
/-- the others -/
def otL (f : Nat → ByteArray) : Nat → List ByteArray
  | 0 => []
  | i + 1 => if bangB (f i) = true then otL f i else otL f i ++ [f i]
theorem exL_len (f : Nat → ByteArray) : ∀ i, (exL f i).length ≤ i
  | 0 => Nat.le_refl _
  | i + 1 => by
    have := exL_len f i
    rw [exL]; split
    · simp; omega
    · omega
theorem otL_len (f : Nat → ByteArray) : ∀ i, (otL f i).length ≤ i
  | 0 => Nat.le_refl _
  | i + 1 => by
    have := otL_len f i
    rw [otL]; split
    · omega
    · simp; omega
theorem exL_small {f : Nat → ByteArray} {N : Nat} : ∀ {i}, (∀ j, j < i → (f j).size ≤ N) → ∀ x ∈ exL f i, x.size ≤ N
  | 0, _, x, hx => by cases hx
  | i + 1, h, x, hx => by
    rw [exL] at hx
    split at hx
    · rw [List.mem_append, List.mem_singleton] at hx
      rcases hx with hx | hx
      · exact exL_small (fun j hj => h j (by omega)) x hx
      · rw [hx]; exact Nat.le_trans (unbang_le _) (h i (by omega))
    · exact exL_small (fun j hj => h j (by omega)) x hx
theorem otL_small {f : Nat → ByteArray} {N : Nat} : ∀ {i}, (∀ j, j < i → (f j).size ≤ N) → ∀ x ∈ otL f i, x.size ≤ N
  | 0, _, x, hx => by cases hx
  | i + 1, h, x, hx => by
    rw [otL] at hx
    split at hx
    · exact otL_small (fun j hj => h j (by omega)) x hx
    · rw [List.mem_append, List.mem_singleton] at hx
      rcases hx with hx | hx
      · exact otL_small (fun j hj => h j (by omega)) x hx
      · rw [hx]; exact h i (by omega)

def fitT (s : ByteArray) (m : Nat) (h : Nat → ByteArray) : Bool := fitsB (splitB s 46).length (atL (splitB s 46)) m h
theorem fitT_len {s : ByteArray} {m : Nat} {h : Nat → ByteArray} (e : fitT s m h = true) : (splitB s 46).length ≤ m := by
  unfold fitT fitsB at e
  rw [Bool.and_eq_true, decide_eq_true_eq] at e
  exact e.1
/-- the most labels of a rule of a list that fits; 0 if none does -/
def mxL (m : Nat) (h : Nat → ByteArray) : List ByteArray → Nat
  | [] => 0
  | r :: L => if fitT r m h = true then max (splitB r 46).length (mxL m h L) else mxL m h L
theorem mxL_snoc (m : Nat) (h : Nat → ByteArray) (r : ByteArray) : ∀ L, mxL m h (L ++ [r]) = if fitT r m h = true then max (mxL m h L) (splitB r 46).length else mxL m h L
  | [] => by simp [mxL]
  | x :: L => by
    rw [List.cons_append, mxL, mxL_snoc m h r L, mxL]
    split
    · split
      · rw [Nat.max_assoc]
      · rfl
    · rfl
theorem mxL_le (m : Nat) (h : Nat → ByteArray) : ∀ L, mxL m h L ≤ m
  | [] => Nat.zero_le _
  | r :: L => by
    have ih := mxL_le m h L
    rw [mxL]; split
    · rename_i e
      have := fitT_len e
      omega
    · exact ih
theorem mxL_ge {m : Nat} {h : Nat → ByteArray} {r : ByteArray} (e : fitT r m h = true) : ∀ {L}, r ∈ L → (splitB r 46).length ≤ mxL m h L
  | [], hr => by cases hr
  | x :: L, hr => by
    rw [mxL]
    rcases List.mem_cons.1 hr with hx | hx
    · subst hx; rw [if_pos e]; omega
    · have := mxL_ge e hx
      split <;> omega
theorem mxL_at (m : Nat) (h : Nat → ByteArray) : ∀ L, 0 < mxL m h L → ∃ r ∈ L, fitT r m h = true ∧ (splitB r 46).length = mxL m h L
  | [], h0 => absurd h0 (by simp [mxL])
  | x :: L, h0 => by
    rw [mxL] at h0 ⊢
    split at h0
    · rename_i e
      rw [if_pos e]
      by_cases hc : (splitB x 46).length < mxL m h L
      · obtain ⟨r, hr, hf, hl⟩ := mxL_at m h L (by omega)
        exact ⟨r, by simp [hr], hf, by omega⟩
      · exact ⟨x, by simp, e, by omega⟩
    · rename_i e
      rw [if_neg e]
      obtain ⟨r, hr, hf, hl⟩ := mxL_at m h L h0
      exact ⟨r, by simp [hr], hf, hl⟩
theorem fitR_bang {s : ByteArray} {m : Nat} {h : Nat → ByteArray} (e : bangB s = true) : fitR s m h = fitT (unbang s) m h ∧ (ruleL s).length = (splitB (unbang s) 46).length := by
  have : ruleL s = splitB (unbang s) 46 := by rw [ruleL, if_pos e, unbang_yes e]
  unfold fitR fitT
  rw [this]; exact ⟨rfl, rfl⟩
theorem fitR_plain {s : ByteArray} {m : Nat} {h : Nat → ByteArray} (e : ¬ bangB s = true) : fitR s m h = fitT s m h ∧ (ruleL s).length = (splitB s 46).length := by
  have : ruleL s = splitB s 46 := by rw [ruleL, if_neg e]
  unfold fitR fitT
  rw [this]; exact ⟨rfl, rfl⟩
theorem cntTo_apart (f : Nat → ByteArray) (m : Nat) (h : Nat → ByteArray) : ∀ i, cntTo f m h i = (max 1 (mxL m h (otL f i)), mxL m h (exL f i))
  | 0 => rfl
  | i + 1 => by
    rw [cntTo, cntTo_apart f m h i, otL, exL]
    by_cases hb : bangB (f i) = true
    · rw [if_pos hb, if_pos hb, if_pos hb, mxL_snoc, (fitR_bang hb).1, (fitR_bang hb (m := m) (h := h)).2]
      split <;> rfl
    · rw [if_neg hb, if_neg hb, if_neg hb, mxL_snoc, (fitR_plain hb).1, (fitR_plain hb (m := m) (h := h)).2]
      split
      · rw [Nat.max_assoc]
      · rfl
/-- with which of the m labels the fitting rule of most labels begins; m, if none fits -/
def longN (L : List ByteArray) (m : Nat) (h : Nat → ByteArray) : Nat := m - mxL m h L
theorem fitK_fitT {s : ByteArray} {k m : Nat} {h : Nat → ByteArray} (e : fitK s k m h = true) : fitT s m h = true ∧ (splitB s 46).length + k = m := by
  unfold fitK at e
  rw [Bool.and_eq_true, decide_eq_true_eq] at e
  exact ⟨e.2, e.1⟩
theorem longN_hit {L : List ByteArray} {m : Nat} {h : Nat → ByteArray} {k : Nat} {r : ByteArray} (hlow : ∀ j, j < k → ∀ x ∈ L, fitK x j m h = false) (hr : r ∈ L) (he : fitK r k m h = true) : longN L m h = k := by
  obtain ⟨hf, hl⟩ := fitK_fitT he
  have h1 := mxL_ge hf hr
  have h2 := mxL_le m h L
  unfold longN
  by_cases hlt : m - mxL m h L < k
  · obtain ⟨n0, hn0⟩ := splitB_ne r 46
    obtain ⟨x, hx, hfx, hlx⟩ := mxL_at m h L (by omega)
    have := hlow (m - mxL m h L) hlt x hx
    rw [fitK, decide_eq_true (by omega), Bool.true_and] at this
    unfold fitT at hfx
    rw [hfx] at this; cases this
  · omega
theorem longN_none {L : List ByteArray} {m : Nat} {h : Nat → ByteArray} (hlow : ∀ j, j < m → ∀ x ∈ L, fitK x j m h = false) : longN L m h = m := by
  have h2 := mxL_le m h L
  unfold longN
  by_cases h0 : 0 < mxL m h L
  · obtain ⟨x, hx, hfx, hlx⟩ := mxL_at m h L h0
    have := hlow (m - mxL m h L) (by omega) x hx
    rw [fitK, decide_eq_true (by omega), Bool.true_and] at this
    unfold fitT at hfx
    rw [hfx] at this; cases this
  · omega
theorem longN_le (L : List ByteArray) (m : Nat) (h : Nat → ByteArray) : longN L m h ≤ m := Nat.sub_le _ _
/-- where the suffix begins -/
def beginN (n : Nat) (f : Nat → ByteArray) (m : Nat) (h : Nat → ByteArray) : Nat := if longN (exL f n) m h < m then longN (exL f n) m h + 1 else min (longN (otL f n) m h) (m - 1)
theorem beginN_count (n : Nat) (f : Nat → ByteArray) {m : Nat} (h : Nat → ByteArray) (hm : 1 ≤ m) : beginN n f m h = m - countN n f m h ∧ beginN n f m h ≤ m := by
  have h1 := mxL_le m h (exL f n)
  have h2 := mxL_le m h (otL f n)
  unfold beginN countN longN
  rw [cntTo_apart]
  simp only
  by_cases h0 : 0 < mxL m h (exL f n)
  · rw [if_pos (by omega), if_pos h0]; omega
  · rw [if_neg (by omega), if_neg h0]; omega
end Go.Proofs.YtddlnbmkknbegaaDoor

/- The walk of the program's longestFit. -/
namespace Go.Proofs.YtddlnbmkknbegaaDoor
open Go.RowKit

set_option maxRecDepth 10000 in
set_option maxHeartbeats 2000000 in
theorem longest_any (v1 v2 : Value) (B1 B2 m : Nat) (L : List ByteArray) (h : Nat → ByteArray) (w : World) (hG : MaxI w) (h1 : SliceS w B1 v1 L.length (atL L)) (h2 : SliceS w B2 v2 m h) (l1 : L.length ≤ 1048576) (l2 : m ≤ 1048576) (hL : ∀ x ∈ L, x.size ≤ 1048576) :
    Calls Tryd.prog 78 #[v1, v2] w fun e w' => e = .returned (.int .i64 (longN L m h : Nat)) ∧ Below w.heap.size w w' := by
  have H2 : Hid (SliceS w B2 v2 m h) := h2
  obtain ⟨p1, c1, rfl, g1⟩ := h1
  have G1 : Hid (0 < L.length → ∃ g, p1 = some ⟨g, 0, none⟩ ∧ B1 ≤ g ∧ g < w.heap.size ∧ ∀ j, j < L.length → w.cell? ⟨g, j, none⟩ = some (.string (atL L j)) ∧ w.frozen? ⟨g, j, none⟩ = false) := g1
  obtain ⟨p2, c2, rfl, -⟩ := h2
  have HG : Hid (MaxI w) := hG
  have HH : Hid (∀ k r, (∀ j, j < k → ∀ x ∈ L, fitK x j m h = false) → r ∈ L → fitK r k m h = true → longN L m h = k) := fun k r a b c => longN_hit a b c
  have HN : Hid ((∀ j, j < m → ∀ x ∈ L, fitK x j m h = false) → longN L m h = m) := fun a => longN_none a
  have HM : Hid (∀ i, i < L.length → atL L i ∈ L) := fun i hi => by
    have : atL L i = L[i] := by simp [atL, hi]
    rw [this]; exact List.getElem_mem hi
  have HI : Hid (∀ x ∈ L, ∃ i, i < L.length ∧ x = atL L i) := fun x hx => by
    obtain ⟨i, hi, e⟩ := List.getElem_of_mem hx
    exact ⟨i, hi, by simp [atL, hi, e]⟩
  have HF : Hid (∀ (i k b : Nat) (W : World), i < L.length → k ≤ m → MaxI W → b < W.heap.size → W.cell? ⟨b, 0, none⟩ = some (.slice p2 m c2) → SliceS W B2 (.slice p2 m c2) m h →
      Calls Tryd.prog 101 #[.string (atL L i), .int .i64 k, .pointer (some ⟨b, 0, none⟩)] W fun e w' => e = .returned (.bool (fitK (atL L i) k m h)) ∧ Below W.heap.size W w') :=
    fun i k b W hi hk hM hb hc hs => fit_any (atL L i) k m b B2 _ h W hM (hL _ (HM.out i hi)) hb hc hs hk l2
  have hmf : ∀ (fn : Fn) (first cap : Array Value) (w : World), (Instr.makeFunc fn first cap).run Tryd.prog w = .ok (.func fn first cap) w := fun _ _ _ _ => rfl
  clear g1 hG hL
  generalize longN L m h = R at *
  generalize atL L = f at *
  go_enter Tryd.func78, Tryd.ntmps78
  go_wp2
  go_step3
  go_wp2
  go_step3
  go_wp2
  have hb0 : Below w.heap.size w (w.alloc (.cells #[.slice p2 m c2] 23)) := (Below.refl _ _).alloc (Nat.le_refl _) _
  have hz0 : w.heap.size < (w.alloc (.cells #[.slice p2 m c2] 23)).heap.size := by simp
  have hc0 : (w.alloc (.cells #[.slice p2 m c2] 23)).cell? ⟨w.heap.size, 0, none⟩ = some (.slice p2 m c2) := by simp
  have HB0 : Hid (Below w.heap.size w (w.alloc (.cells #[.slice p2 m c2] 23))) := hb0
  clear hb0
  generalize w.alloc (.cells #[.slice p2 m c2] 23) = w0 at *
  go_loopg [6, 15] m (fun g s6 s15 wx => ∃ k : Nat, k + g = m ∧ s6 = .int .i64 m ∧ s15 = .int .i64 k ∧ Hid (Below w0.heap.size w0 wx) ∧ Hid (∀ j, j < k → ∀ x ∈ L, fitK x j m h = false))
  case atStart => exact ⟨0, by omega, rfl, rfl, Below.refl _ _, fun j hj => absurd hj (by omega)⟩
  case round =>
    obtain ⟨k, hkg, rfl, rfl, HB, HK⟩ := hrel
    cases gk with
    | zero =>
      have hkz : ¬ ((k : Int) < (m : Int)) := by omega
      have HQ : Hid (R = m) := HN.out (fun j hj => HK.out j (by omega))
      go_wp2
      try rw [Exit.noGoto_ret]
      go_ret
      exact ⟨ret_int (by rw [HQ.out]), HB0.out.trans (HB.out.mono HB0.out.size)⟩
    | succ g =>
      have hkz : (k : Int) < (m : Int) := by omega
      go_wp2
      go_loopg [6, 20] L.length (fun g2 s6 s20 wy => ∃ i : Nat, i + g2 = L.length ∧ s6 = .int .i64 m ∧ s20 = .int .i64 i ∧ Hid (Below w0.heap.size w0 wy) ∧ Hid (∀ j, j < i → fitK (f j) k m h = false))
      case atStart => exact ⟨0, by omega, rfl, rfl, HB, fun j hj => absurd hj (by omega)⟩
      case round =>
        obtain ⟨i, hig, rfl, rfl, HB2, HJ⟩ := hrel
        cases gk with
        | zero =>
          have hiz : ¬ ((i : Int) < (L.length : Int)) := by omega
          go_wp2
          go_roundg g
          case measure => omega
          case rel =>
            refine ⟨k + 1, by omega, rfl, by go_num, HB2, ?_⟩
            intro j hj x hx
            by_cases e : j = k
            · subst e
              obtain ⟨i', hi', rfl⟩ := HI.out x hx
              exact HJ.out i' (by omega)
            · exact HK.out j (by omega) x hx
        | succ g2 =>
          have hiz : (i : Int) < (L.length : Int) := by omega
          have hiz0 : (0 : Int) ≤ (i : Int) := by omega
          obtain ⟨g1, rfl, -, hg1, hc1⟩ := G1.out (by omega)
          have B2' : Below w.heap.size w wr := HB0.out.trans (HB2.out.mono HB0.out.size)
          have d1 : wr.cell? ⟨g1, i, none⟩ = some (.string (f i)) := by rw [(bcell B2').1 _ _ hg1]; exact (hc1 i (by omega)).1
          have d2 : wr.cell? ⟨w.heap.size, 0, none⟩ = some (.slice p2 m c2) := by rw [(bcell HB2.out).1 _ _ hz0]; exact hc0
          have KF0 := HF.out i k w.heap.size wr (by omega) (by omega) (HG.out.on B2') (by have := HB2.out.size; omega) d2 (H2.out.below B2')
          clear hc1 B2'
          cases hfit : fitK (f i) k m h with
          | true =>
            have HQ : Hid (R = k) := HH.out k (f i) HK.out (HM.out i (by omega)) hfit
            rw [hfit] at KF0
            have KF : Hid (Calls Tryd.prog 101 #[.string (f i), .int .i64 k, .pointer (some ⟨w.heap.size, 0, none⟩)] wr fun e w' => e = .returned (.bool true) ∧ Below wr.heap.size wr w') := KF0
            clear KF0 hfit
            generalize f i = t at *
            go_wp2_with (go_at_call 101; refine KF.out.mono ?_; rintro e w3 ⟨rfl, hb3⟩)
            try rw [Exit.noGoto_ret]
            go_ret
            exact ⟨ret_int (by rw [HQ.out]), HB0.out.trans ((HB2.out.trans (hb3.mono HB2.out.size)).mono HB0.out.size)⟩
          | false =>
            have HQ : Hid (fitK (f i) k m h = false) := hfit
            rw [hfit] at KF0
            have KF : Hid (Calls Tryd.prog 101 #[.string (f i), .int .i64 k, .pointer (some ⟨w.heap.size, 0, none⟩)] wr fun e w' => e = .returned (.bool false) ∧ Below wr.heap.size wr w') := KF0
            clear KF0 hfit
            generalize hx : f i = t at *
            have HX : Hid (f i = t) := hx
            clear hx
            go_wp2_with (go_at_call 101; refine KF.out.mono ?_; rintro e w3 ⟨rfl, hb3⟩)
            go_roundg g2
            case measure => omega
            case rel =>
              refine ⟨i + 1, by omega, rfl, by go_num, HB2.out.trans (hb3.mono HB2.out.size), ?_⟩
              intro j hj
              by_cases e : j = i
              · subst e; rw [HX.out]; exact HQ.out
              · exact HJ.out j (by omega)
end Go.Proofs.YtddlnbmkknbegaaDoor

/- The walks of the program's inLabel, labelRight and pathRight. -/
namespace Go.Proofs.YtddlnbmkknbegaaDoor
open Go.RowKit

set_option maxRecDepth 10000 in
set_option maxHeartbeats 400000 in
theorem inLabel_any (n : Nat) (w : World) :
    Calls Tryd.prog 86 #[.int .i32 n] w fun e w' => e = .returned (.bool (labC n)) ∧ w' = w := by
  rcases (show (n < 45) ∨ (45 ≤ n ∧ n ≤ 45) ∨ (46 ≤ n ∧ n < 48) ∨ (48 ≤ n ∧ n ≤ 57) ∨ (58 ≤ n ∧ n < 97) ∨ (97 ≤ n ∧ n ≤ 122) ∨ (122 < n) by omega)
    with c1 | ⟨c1, c2⟩ | ⟨c1, c2⟩ | ⟨c1, c2⟩ | ⟨c1, c2⟩ | ⟨c1, c2⟩ | c1
  · have b1 : decide ((97 : Int) ≤ (n : Int)) = false := by rw [decide_eq_false_iff_not]; omega
    have b2 : decide ((48 : Int) ≤ (n : Int)) = false := by rw [decide_eq_false_iff_not]; omega
    have b3 : ((n : Int) == 45) = false := by rw [beq_eq_false_iff_ne]; omega
    go_enter Tryd.func86, Tryd.ntmps86
    go_wp2
    go_ret
    exact ⟨ret_bool (labC_no (by omega)).symm, rfl⟩
  · have b1 : decide ((97 : Int) ≤ (n : Int)) = false := by rw [decide_eq_false_iff_not]; omega
    have b2 : decide ((48 : Int) ≤ (n : Int)) = false := by rw [decide_eq_false_iff_not]; omega
    have b3 : ((n : Int) == 45) = true := by rw [beq_iff_eq]; omega
    go_enter Tryd.func86, Tryd.ntmps86
    go_wp2
    go_ret
    exact ⟨ret_bool (labC_yes (by omega)).symm, rfl⟩
  · have b1 : decide ((97 : Int) ≤ (n : Int)) = false := by rw [decide_eq_false_iff_not]; omega
    have b2 : decide ((48 : Int) ≤ (n : Int)) = false := by rw [decide_eq_false_iff_not]; omega
    have b3 : ((n : Int) == 45) = false := by rw [beq_eq_false_iff_ne]; omega
    go_enter Tryd.func86, Tryd.ntmps86
    go_wp2
    go_ret
    exact ⟨ret_bool (labC_no (by omega)).symm, rfl⟩
  · have b1 : decide ((97 : Int) ≤ (n : Int)) = false := by rw [decide_eq_false_iff_not]; omega
    go_enter Tryd.func86, Tryd.ntmps86
    go_wp2
    go_ret
    exact ⟨ret_bool (labC_yes (by omega)).symm, rfl⟩
  · have b1 : decide ((97 : Int) ≤ (n : Int)) = false := by rw [decide_eq_false_iff_not]; omega
    have b2 : decide ((n : Int) ≤ 57) = false := by rw [decide_eq_false_iff_not]; omega
    have b3 : ((n : Int) == 45) = false := by rw [beq_eq_false_iff_ne]; omega
    go_enter Tryd.func86, Tryd.ntmps86
    go_wp2
    go_ret
    exact ⟨ret_bool (labC_no (by omega)).symm, rfl⟩
  · go_enter Tryd.func86, Tryd.ntmps86
    go_wp2
    go_ret
    exact ⟨ret_bool (labC_yes (by omega)).symm, rfl⟩
  · have b1 : decide ((n : Int) ≤ 122) = false := by rw [decide_eq_false_iff_not]; omega
    have b2 : decide ((n : Int) ≤ 57) = false := by rw [decide_eq_false_iff_not]; omega
    have b3 : ((n : Int) == 45) = false := by rw [beq_eq_false_iff_ne]; omega
    go_enter Tryd.func86, Tryd.ntmps86
    go_wp2
    go_ret
    exact ⟨ret_bool (labC_no (by omega)).symm, rfl⟩

set_option maxRecDepth 10000 in
set_option maxHeartbeats 400000 in
theorem labelRight_any (t : ByteArray) (w : World) (ht : t.size ≤ 9223372036854775807) :
    Calls Tryd.prog 71 #[.string t] w fun e w' => e = .returned (.bool (labelB t)) ∧ Below w.heap.size w w' := by
  by_cases h1 : t.size < 1
  · have q1 : decide ((t.size : Int) - 1 < 0) = true := by rw [decide_eq_true_iff]; omega
    go_enter Tryd.func71, Tryd.ntmps71
    go_wp2
    go_ret
    exact ⟨ret_bool (labelB_size (.inl h1)).symm, Below.refl _ _⟩
  have q1 : decide ((t.size : Int) - 1 < 0) = false := by rw [decide_eq_false_iff_not]; omega
  by_cases h2 : 12 < t.size
  · have q2 : decide ((12 : Int) ≤ (t.size : Int) - 1) = true := by rw [decide_eq_true_iff]; omega
    go_enter Tryd.func71, Tryd.ntmps71
    go_wp2
    go_ret
    exact ⟨ret_bool (labelB_size (.inr h2)).symm, Below.refl _ _⟩
  have q2 : decide ((12 : Int) ≤ (t.size : Int) - 1) = false := by rw [decide_eq_false_iff_not]; omega
  have hp : 0 < t.size := by omega
  have hl : t.size - 1 < t.size := by omega
  by_cases h3 : t[0].toNat = 45
  · have q3 : ((t[0].toNat : Int) == 45) = true := by rw [beq_iff_eq]; omega
    have H3 : Hid (t[0].toNat = 45) := h3
    clear h3
    go_enter Tryd.func71, Tryd.ntmps71
    go_wp2
    go_ret
    exact ⟨ret_bool (labelB_first hp H3.out).symm, Below.refl _ _⟩
  have q3 : ((t[0].toNat : Int) == 45) = false := by rw [beq_eq_false_iff_ne]; omega
  have H3 : Hid (¬ t[0].toNat = 45) := h3
  clear h3
  by_cases h4 : t[t.size - 1].toNat = 45
  · have q4 : ((t[t.size - 1].toNat : Int) == 45) = true := by rw [beq_iff_eq]; omega
    have H4 : Hid (t[t.size - 1].toNat = 45) := h4
    clear h4
    go_enter Tryd.func71, Tryd.ntmps71
    go_wp2
    go_ret
    exact ⟨ret_bool (labelB_last hl H4.out).symm, Below.refl _ _⟩
  have q4 : ((t[t.size - 1].toNat : Int) == 45) = false := by rw [beq_eq_false_iff_ne]; omega
  have H4 : Hid (¬ t[t.size - 1].toNat = 45) := h4
  clear h4
  go_enter Tryd.func71, Tryd.ntmps71
  go_wp2
  go_loopw [5] (fun _ wr => ∃ k : Nat, k ≤ t.size ∧ wr = w.iter t k ∧ Hid (∀ i (h : i < t.size), i < k → labC t[i].toNat = true)) (fun _ wr => t.size - wr.iterPos w.heap.size)
  case atStart => exact ⟨0, Nat.zero_le _, rfl, fun i _ hi => absurd hi (by omega)⟩
  case round =>
    obtain ⟨k, hk, rfl, HR⟩ := hrel
    by_cases hlt : k < t.size
    · by_cases ha : t[k].toNat < 128
      · have hnx : ∀ ty, (Instr.next (.pointer (some ⟨w.heap.size, 0, none⟩)) true ty).run Tryd.prog (w.iter t k) = _ := fun ty => run_next_ascii w t k ty hlt ha
        cases hc : labC t[k].toNat with
        | true =>
          have HC : Hid (∀ W, Calls Tryd.prog 86 #[.int .i32 (t[k].toNat : Int)] W fun e w' => e = .returned (.bool true) ∧ w' = W) := fun W => by rw [← hc]; exact inLabel_any _ W
          have HK : Hid (labC t[k].toNat = true) := hc
          clear hc
          go_wp2_with (go_at_call 86; refine (HC.out _).mono ?_; rintro e w2 ⟨rfl, rfl⟩)
          go_roundw
          case rel => exact ⟨k + 1, by omega, rfl, all_succ HR.out hlt HK.out⟩
          case measure => simp; omega
        | false =>
          have HC : Hid (∀ W, Calls Tryd.prog 86 #[.int .i32 (t[k].toNat : Int)] W fun e w' => e = .returned (.bool false) ∧ w' = W) := fun W => by rw [← hc]; exact inLabel_any _ W
          have HK : Hid (labelB t = false) := labelB_at k hlt hc
          clear hc
          go_wp2_with (go_at_call 86; refine (HC.out _).mono ?_; rintro e w2 ⟨rfl, rfl⟩)
          go_ret
          exact ⟨ret_bool HK.out.symm, (Below.refl _ _).alloc (Nat.le_refl _) _⟩
      · have hnx : ∀ ty, (Instr.next (.pointer (some ⟨w.heap.size, 0, none⟩)) true ty).run Tryd.prog (w.iter t k) = _ := fun ty => run_next_any w t k ty hlt
        have hd := (decode_high t k hlt (by omega)).1
        have HK : Hid (labelB t = false) := labelB_at k hlt (labC_no (by omega))
        generalize Utf8.decode t k = d at *
        obtain ⟨r, n⟩ := d
        have hd2 : 128 ≤ r := hd
        have HC : Hid (∀ W, Calls Tryd.prog 86 #[.int .i32 (r : Int)] W fun e w' => e = .returned (.bool false) ∧ w' = W) := fun W => by
          have := inLabel_any r W
          rw [labC_no (by omega)] at this; exact this
        clear hd hd2
        go_wp2_with (go_at_call 86; refine (HC.out _).mono ?_; rintro e w2 ⟨rfl, rfl⟩)
        go_ret
        exact ⟨ret_bool HK.out.symm, (Below.refl _ _).alloc (Nat.le_refl _) _⟩
    · have hnx : ∀ ty, (Instr.next (.pointer (some ⟨w.heap.size, 0, none⟩)) true ty).run Tryd.prog (w.iter t k) = _ := fun ty => run_next_end w t k ty hlt
      go_wp2
      go_ret
      exact ⟨ret_bool (labelB_true (by omega) (by omega) (fun _ => H3.out) (fun _ => H4.out) (fun i h => HR.out i h (by omega))).symm, (Below.refl _ _).alloc (Nat.le_refl _) _⟩
end Go.Proofs.YtddlnbmkknbegaaDoor

/- The walk of the program's HostRight. -/
namespace Go.Proofs.YtddlnbmkknbegaaDoor
open Go.RowKit

theorem mem_le_sum : ∀ {l : List Nat} {x : Nat}, x ∈ l → x ≤ l.sum
  | [], _, h => by cases h
  | a :: l, x, h => by
    rw [List.sum_cons]
    cases h with
    | head => omega
    | tail _ h => have := mem_le_sum h; omega
theorem piece_le {s x : ByteArray} (hx : x ∈ splitB s 46) : x.size ≤ s.size := by
  have h1 : x.data.toList ∈ cutL 46 s.data.toList := by rw [← splitB_cut]; exact List.mem_map.2 ⟨x, hx, rfl⟩
  have h2 := cutL_sum 46 s.data.toList
  have h3 : (x.data.toList.length + 1) ≤ ((cutL 46 s.data.toList).map (fun p => p.length + 1)).sum := mem_le_sum (List.mem_map.2 ⟨_, h1, rfl⟩)
  rw [h2, ← Lib.size_eq, ← Lib.size_eq] at h3
  omega
set_option maxRecDepth 10000 in
set_option maxHeartbeats 400000 in
theorem hostRight_any (s : ByteArray) (w : World) (hG : MaxI w) (hs : s.size ≤ 1048576) :
    Calls Tryd.prog 45 #[.string s] w fun e w' => e = .returned (.bool (hostB s)) ∧ Below w.heap.size w w' := by
  have HC : Hid (∀ W, MaxI W → Calls Tryd.prog 50 #[.string s, .string ⟨#[46]⟩] W fun e w' => e = .returned (.slice (some ⟨W.heap.size, 0, none⟩) (splitB s 46).length (splitB s 46).length) ∧ w' = W.alloc (.cells (strCells (splitB s 46)).toArray 9)) := fun W h => split_call s W h (by omega)
  have HA : Hid ((∀ k (h : k < (splitB s 46).length), labelB ((splitB s 46)[k]) = false → hostB s = false) ∧ ((splitB s 46).length ≤ 6 → (∀ k (h : k < (splitB s 46).length), labelB ((splitB s 46)[k]) = true) → hostB s = true) ∧ (6 < (splitB s 46).length → hostB s = false)) :=
    ⟨fun k h hl => hostB_at k h hl, fun h1 h2 => hostB_six h1 h2, fun h => hostB_many h⟩
  have hn := splitB_len s 46
  have HZ : Hid (∀ x ∈ splitB s 46, x.size ≤ s.size) := fun x hx => piece_le hx
  generalize splitB s 46 = L at *
  have HG : Hid (MaxI w) := hG
  clear hG
  go_enter Tryd.func45, Tryd.ntmps45
  go_wp2_with fail
  refine (HC.out _ HG.out).mono ?_
  rintro e w1 ⟨rfl, rfl⟩
  by_cases h6 : 6 < L.length
  · go_wp2
    go_ret
    exact ⟨ret_bool (HA.out.2.2 h6).symm, (Below.refl _ _).alloc (Nat.le_refl _) _⟩
  have q6 : decide ((6 : Int) < (L.length : Int)) = false := by rw [decide_eq_false_iff_not]; omega
  have hcell : ∀ k (h : k < L.length), (w.alloc (.cells (strCells L).toArray 9)).cell? ⟨w.heap.size, k, none⟩ = some (.string L[k]) := by
    intro k hk
    simp [strCells, hk]
  have hb : Below w.heap.size w (w.alloc (.cells (strCells L).toArray 9)) := (Below.refl _ _).alloc (Nat.le_refl _) _
  have hz1 : w.heap.size < (w.alloc (.cells (strCells L).toArray 9)).heap.size := by simp
  generalize w.alloc (.cells (strCells L).toArray 9) = w1 at *
  go_wp2
  go_loopw [13] (fun i wr => ∃ k : Nat, k ≤ L.length ∧ i = .int .i64 k ∧ Below w1.heap.size w1 wr ∧ Hid (∀ j (h : j < L.length), j < k → labelB L[j] = true)) (fun i _ => L.length - (intOf i).toNat)
  case atStart => exact ⟨0, by omega, rfl, Below.refl _ _, fun j _ hj => absurd hj (by omega)⟩
  case round =>
    obtain ⟨k, hk, rfl, hb2, HR⟩ := hrel
    by_cases hlt : k < L.length
    · have hc1 := hcell k hlt
      have hck : wr.cell? ⟨w.heap.size, k, none⟩ = some (.string L[k]) := by rw [(bcell hb2).1 _ _ hz1]; exact hc1
      have HL : Hid (∀ W, Calls Tryd.prog 71 #[.string L[k]] W fun e w' => e = .returned (.bool (labelB L[k])) ∧ Below W.heap.size W w') := fun W => labelRight_any L[k] W (by have := HZ.out L[k] (List.getElem_mem hlt); omega)
      have HB2 : Hid (Below w1.heap.size w1 wr) := hb2
      have hz2 := hb2.size
      cases hlab : labelB L[k] with
      | true =>
        have HL2 : Hid (labelB L[k] = true) := hlab
        rw [hlab] at HL
        clear hlab hcell hc1 hb2
        generalize hx : L[k] = x at *
        have HX : Hid (L[k] = x) := hx
        clear hx
        go_wp2_with (go_at_call 71; refine (HL.out _).mono ?_; rintro e w2 ⟨rfl, hb3⟩)
        go_roundw
        case rel =>
          refine ⟨k + 1, by omega, by go_num, HB2.out.trans (hb3.mono hz2), ?_⟩
          intro j hj hjk
          by_cases e : j = k
          · subst e; rw [HX.out]; exact HL2.out
          · exact HR.out j hj (by omega)
        case measure => simp [intOf]; omega
      | false =>
        have HF : Hid (hostB s = false) := HA.out.1 k hlt hlab
        rw [hlab] at HL
        clear hlab hcell hc1 hb2
        generalize L[k] = x at *
        go_wp2_with (go_at_call 71; refine (HL.out _).mono ?_; rintro e w2 ⟨rfl, hb3⟩)
        go_ret
        exact ⟨ret_bool HF.out.symm, hb.trans ((HB2.out.trans (hb3.mono hz2)).mono hb.size)⟩
    · have HF : Hid (hostB s = true) := HA.out.2.1 (by omega) (fun j hj => HR.out j hj (by omega))
      clear hcell
      go_wp2
      go_ret
      exact ⟨ret_bool HF.out.symm, hb.trans (hb2.mono hb.size)⟩
end Go.Proofs.YtddlnbmkknbegaaDoor

/- The walk of the program's RuleRight. -/
namespace Go.Proofs.YtddlnbmkknbegaaDoor
open Go.RowKit

theorem cutBang_call (s : ByteArray) (w : World) :
    Calls Tryd.prog 44 #[.string s, .string ⟨#[33]⟩] w fun e w' => e = .returned (.tuple #[.string (unbang s), .bool (bangB s)]) ∧ w' = w := by
  have h := Any.strings_CutPrefix Tryd.lays103 s ⟨#[33]⟩ w
  rw [bangB_lib]
  exact h
theorem trimStar_call (s : ByteArray) (w : World) :
    Calls Tryd.prog 47 #[.string s, .string ⟨#[42, 46]⟩] w fun e w' => e = .returned (.string (unstar s)) ∧ w' = w :=
  Any.strings_TrimPrefix Tryd.lays101 s ⟨#[42, 46]⟩ w
theorem hasPoint_call (s : ByteArray) (w : World) :
    Calls Tryd.prog 46 #[.string s, .string ⟨#[46]⟩] w fun e w' => e = .returned (.bool (decide (0 ≤ Lib.indexByte s.data.toList 46))) ∧ w' = w :=
  Any.strings_Contains_one Tryd.lays144 s 46 w

set_option maxRecDepth 10000 in
set_option maxHeartbeats 400000 in
theorem ruleRight_any (s : ByteArray) (w : World) (hG : MaxI w) (hs : s.size ≤ 1048576) :
    Calls Tryd.prog 20 #[.string s] w fun e w' => e = .returned (.bool (ruleB s)) ∧ Below w.heap.size w w' := by
  have HC : Hid (∀ W, Calls Tryd.prog 44 #[.string s, .string ⟨#[33]⟩] W fun e w' => e = .returned (.tuple #[.string (unbang s), .bool (bangB s)]) ∧ w' = W) := fun W => cutBang_call s W
  cases hb : bangB s with
  | true =>
    have HR : Hid (ruleB s = (hostB (unbang s) && decide (0 ≤ Lib.indexByte (unbang s).data.toList 46))) := ruleB_yes hb
    rw [hb] at HC
    have hz := unbang_le s
    have HH : Hid (Calls Tryd.prog 45 #[.string (unbang s)] w fun e w' => e = .returned (.bool (hostB (unbang s))) ∧ Below w.heap.size w w') := hostRight_any (unbang s) w hG (by omega)
    have HP : Hid (∀ W, Calls Tryd.prog 46 #[.string (unbang s), .string ⟨#[46]⟩] W fun e w' => e = .returned (.bool (decide (0 ≤ Lib.indexByte (unbang s).data.toList 46))) ∧ w' = W) := fun W => hasPoint_call (unbang s) W
    clear hb hG hz
    generalize decide (0 ≤ Lib.indexByte (unbang s).data.toList 46) = p at *
    generalize hostB (unbang s) = b at *
    generalize unbang s = u at *
    cases b with
    | false =>
      go_enter Tryd.func20, Tryd.ntmps20
      go_wp2_with (first | (go_at_call 44; refine (HC.out _).mono ?_; rintro e w1 ⟨rfl, rfl⟩) | (go_at_call 45; refine HH.out.mono ?_; rintro e w2 ⟨rfl, hb2⟩))
      go_ret
      exact ⟨ret_bool (by rw [HR.out]; rfl), hb2⟩
    | true =>
      go_enter Tryd.func20, Tryd.ntmps20
      go_wp2_with (first | (go_at_call 44; refine (HC.out _).mono ?_; rintro e w1 ⟨rfl, rfl⟩) | (go_at_call 45; refine HH.out.mono ?_; rintro e w2 ⟨rfl, hb2⟩) | (go_at_call 46; refine (HP.out _).mono ?_; rintro e w3 ⟨rfl, rfl⟩))
      go_ret
      exact ⟨ret_bool (by rw [HR.out]; rfl), hb2⟩
  | false =>
    have HR : Hid (ruleB s = hostB (unstar s)) := ruleB_no hb
    rw [hb] at HC
    have hz := unstar_le s
    have HH : Hid (Calls Tryd.prog 45 #[.string (unstar s)] w fun e w' => e = .returned (.bool (hostB (unstar s))) ∧ Below w.heap.size w w') := hostRight_any (unstar s) w hG (by omega)
    have HP : Hid (∀ W, Calls Tryd.prog 47 #[.string s, .string ⟨#[42, 46]⟩] W fun e w' => e = .returned (.string (unstar s)) ∧ w' = W) := fun W => trimStar_call s W
    clear hb hG hz
    generalize hostB (unstar s) = b at *
    generalize unstar s = u at *
    go_enter Tryd.func20, Tryd.ntmps20
    go_wp2_with (first | (go_at_call 44; refine (HC.out _).mono ?_; rintro e w1 ⟨rfl, rfl⟩) | (go_at_call 45; refine HH.out.mono ?_; rintro e w2 ⟨rfl, hb2⟩) | (go_at_call 47; refine (HP.out _).mono ?_; rintro e w3 ⟨rfl, rfl⟩))
    go_ret
    exact ⟨ret_bool (by rw [HR.out]), hb2⟩
end Go.Proofs.YtddlnbmkknbegaaDoor

/- The walk of the program's rulesApart. -/
namespace Go.Proofs.YtddlnbmkknbegaaDoor
open Go.RowKit

/-- two slices lie in two rows -/
def Apart (u v : Value) : Prop := ∀ b, u.ownBlock = some b → ¬ v.ownBlock = some b
theorem own_kept {w w' : World} {base n size : Nat} {e : TypeId} {v : Value} {xs : List Value} {row : Option Nat} (h : w.ownsRow base e size v n xs) (hg : w.grownBy w' row) (hne : ∀ b, v.ownBlock = some b → ¬ row = some b) : w'.ownsRow base e size v n xs := by
  obtain ⟨hl, ⟨rfl, h0⟩ | ⟨g, cap, cur, rfl, hb, hh, r⟩⟩ := h
  · exact ⟨hl, .inl ⟨rfl, h0⟩⟩
  · refine ⟨hl, .inr ⟨g, cap, cur, rfl, hb, ?_, r⟩⟩
    rw [hg.block g (Array.getElem?_eq_some_iff.mp hh).1 (fun e => hne g rfl (by simpa using e.symm))]
    exact hh
theorem own_lt {w : World} {base n size : Nat} {e : TypeId} {v : Value} {xs : List Value} (h : w.ownsRow base e size v n xs) : ∀ b, v.ownBlock = some b → b < w.heap.size := by
  intro b hb
  obtain ⟨hl, ⟨rfl, h0⟩ | ⟨g, cap, cur, rfl, _, hh, r⟩⟩ := h
  · cases hb
  · obtain rfl : g = b := by simpa [Value.ownBlock] using hb
    exact (Array.getElem?_eq_some_iff.mp hh).1
theorem Apart.symm {u v : Value} (h : Apart u v) : Apart v u := fun b hb hc => h b hc hb
theorem Apart.step {u u' v : Value} {k : Nat} (h : Apart u v) (hat : u'.ownBlock = u.ownBlock ∨ u'.ownBlock = some k) (hv : ∀ b, v.ownBlock = some b → b < k) : Apart u' v := by
  intro b hb hc
  rcases hat with e | e
  · rw [e] at hb; exact h b hb hc
  · rw [e] at hb
    obtain rfl := Option.some.inj hb
    exact absurd (hv _ hc) (by omega)

set_option maxRecDepth 10000 in
set_option maxHeartbeats 2000000 in
theorem apart_any (v : Value) (n B : Nat) (f : Nat → ByteArray) (w : World) (hs : SliceS w B v n f) (hn : n ≤ 1048576) :
    Calls Tryd.prog 77 #[v] w fun e w' => ∃ ve vo, e = .returned (.tuple #[ve, vo]) ∧ SliceS w' w.heap.size ve (exL f n).length (atL (exL f n)) ∧ SliceS w' w.heap.size vo (otL f n).length (atL (otL f n)) ∧ Below w.heap.size w w' := by
  obtain ⟨i0, hi, hz0, hz1, hz2⟩ := info_parts infoStr
  obtain ⟨p, cap, rfl, hg⟩ := hs
  have HG : Hid (0 < n → ∃ g, p = some ⟨g, 0, none⟩ ∧ B ≤ g ∧ g < w.heap.size ∧ ∀ j, j < n → w.cell? ⟨g, j, none⟩ = some (.string (f j)) ∧ w.frozen? ⟨g, j, none⟩ = false) := hg
  clear hg
  go_enter Tryd.func77, Tryd.ntmps77
  go_wp2
  go_loopw [2, 3, 10] (fun ve vo i wr => ∃ k : Nat, k ≤ n ∧ i = .int .i64 k ∧ Hid (wr.ownsRow w.heap.size 9 1 ve (exL f k).length (strCells (exL f k))) ∧ Hid (wr.ownsRow w.heap.size 9 1 vo (otL f k).length (strCells (otL f k))) ∧ Hid (Apart ve vo) ∧ Hid (Below w.heap.size w wr)) (fun _ _ i _ => n - (intOf i).toNat)
  case atStart => exact ⟨0, Nat.zero_le _, rfl, World.ownsRow_nil _ _ _ _, World.ownsRow_nil _ _ _ _, (fun b hb => by simp [Value.ownBlock] at hb : Apart _ _), Below.refl _ _⟩
  case round =>
    obtain ⟨k, hk, rfl, HE, HO, HA, HB⟩ := hrel
    by_cases hlt : k < n
    · obtain ⟨g, rfl, -, hgw, hc⟩ := HG.out (by omega)
      have hck : wr.cell? ⟨g, k, none⟩ = some (.string (f k)) := by rw [(bcell HB.out).1 _ _ hgw]; exact (hc k hlt).1
      have KC0 := fun W => cutBang_call (f k) W
      have k0 : (0 : Int) ≤ k := by omega
      have k1 : (k : Int) < n := by omega
      have hbs := HB.out.size
      have hle := exL_len f k
      have hlo := otL_len f k
      clear hc
      cases hb : bangB (f k) with
      | true =>
        rw [hb] at KC0
        have KC : Hid (∀ W, Calls Tryd.prog 44 #[.string (f k), .string ⟨#[33]⟩] W fun e w' => e = .returned (.tuple #[.string (unbang (f k)), .bool true]) ∧ w' = W) := KC0
        have HE1 : Hid (exL f (k + 1) = exL f k ++ [unbang (f k)]) := by show _ = _; rw [exL, if_pos hb]
        have HO1 : Hid (otL f (k + 1) = otL f k) := by show _ = _; rw [otL, if_pos hb]
        clear KC0 hb
        generalize f k = t at *
        generalize unbang t = u at *
        go_wp2_with (first | (go_at_call 44; refine (KC.out _).mono ?_; rintro e w1 ⟨rfl, rfl⟩) | (at_builtin; go_must (refine wpList_append_own_at _ rfl _ _ 23 rfl w.heap.size 9 i0 (.string ⟨#[]⟩) 1 16 Tryd.underlying23 hi hz0 hz1 hz2 rfl (by decide) _ _ _ rfl (HE.out.alloc _) ⟨w1.heap.size, 0, none⟩ 1 1 [.string u] rfl rfl (cell_one_new _ _ _) (by intro u hu; simp at hu; subst hu; rfl) (by unfold maxLen; omega) (by omega) (by simp; omega) ?_)))
        intro v' w2 hown3 hgrow _ hat
        rw [strCells_snoc] at hown3
        have hb2 : Below w.heap.size w w2 := (HB.out.alloc hbs _).grown hgrow (by simp; omega) (fun j hj => (HE.out.lt j hj).1)
        have hO2 := own_kept (HO.out.alloc (.cells #[.string u] 9)) hgrow HA.out.symm
        have hA2 := HA.out.step hat (fun b hb => by have := own_lt HO.out b hb; simp; omega)
        have G1 : Hid (w2.ownsRow w.heap.size 9 1 v' (exL f k ++ [u]).length (strCells (exL f k ++ [u]))) := by show World.ownsRow _ _ _ _ _ _ _; simpa using hown3
        have G2 : Hid (w2.ownsRow w.heap.size 9 1 u3 (otL f k).length (strCells (otL f k))) := hO2
        have G3 : Hid (Apart v' u3) := hA2
        have G4 : Hid (Below w.heap.size w w2) := hb2
        clear hown3 hgrow hat hb2 hO2 hA2
        go_wp2
        go_roundw
        case rel => exact ⟨k + 1, by omega, by go_num, by rw [HE1.out]; exact G1, by rw [HO1.out]; exact G2, G3, G4⟩
        case measure => simp [intOf]; omega
      | false =>
        rw [hb] at KC0
        have KC : Hid (∀ W, Calls Tryd.prog 44 #[.string (f k), .string ⟨#[33]⟩] W fun e w' => e = .returned (.tuple #[.string (unbang (f k)), .bool false]) ∧ w' = W) := KC0
        have HE1 : Hid (exL f (k + 1) = exL f k) := by show _ = _; rw [exL, if_neg (by rw [hb]; decide)]
        have HO1 : Hid (otL f (k + 1) = otL f k ++ [f k]) := by show _ = _; rw [otL, if_neg (by rw [hb]; decide)]
        clear KC0 hb
        generalize f k = t at *
        generalize unbang t = u at *
        go_wp2_with (first | (go_at_call 44; refine (KC.out _).mono ?_; rintro e w1 ⟨rfl, rfl⟩) | (at_builtin; go_must (refine wpList_append_own_at _ rfl _ _ 23 rfl w.heap.size 9 i0 (.string ⟨#[]⟩) 1 16 Tryd.underlying23 hi hz0 hz1 hz2 rfl (by decide) _ _ _ rfl (HO.out.alloc _) ⟨w1.heap.size, 0, none⟩ 1 1 [.string t] rfl rfl (cell_one_new _ _ _) (by intro u hu; simp at hu; subst hu; rfl) (by unfold maxLen; omega) (by omega) (by simp; omega) ?_)))
        intro v' w2 hown3 hgrow _ hat
        rw [strCells_snoc] at hown3
        have hb2 : Below w.heap.size w w2 := (HB.out.alloc hbs _).grown hgrow (by simp; omega) (fun j hj => (HO.out.lt j hj).1)
        have hE2 := own_kept (HE.out.alloc (.cells #[.string t] 9)) hgrow HA.out
        have hA2 := (HA.out.symm.step hat (fun b hb => by have := own_lt HE.out b hb; simp; omega)).symm
        have G1 : Hid (w2.ownsRow w.heap.size 9 1 v' (otL f k ++ [t]).length (strCells (otL f k ++ [t]))) := by show World.ownsRow _ _ _ _ _ _ _; simpa using hown3
        have G2 : Hid (w2.ownsRow w.heap.size 9 1 u2 (exL f k).length (strCells (exL f k))) := hE2
        have G3 : Hid (Apart u2 v') := hA2
        have G4 : Hid (Below w.heap.size w w2) := hb2
        clear hown3 hgrow hat hb2 hE2 hA2
        go_wp2
        go_roundw
        case rel => exact ⟨k + 1, by omega, by go_num, by rw [HE1.out]; exact G2, by rw [HO1.out]; exact G1, G3, G4⟩
        case measure => simp [intOf]; omega
    · obtain rfl : k = n := by omega
      go_wp2
      go_ret2
      exact ⟨_, _, rfl, slice_of_own HE.out, slice_of_own HO.out, HB.out⟩
end Go.Proofs.YtddlnbmkknbegaaDoor

/- The walk of the program's suffixBegin. -/
namespace Go.Proofs.YtddlnbmkknbegaaDoor
open Go.RowKit

theorem atL_mem {L : List ByteArray} : ∀ x ∈ L, ∃ i, i < L.length ∧ x = atL L i := fun x hx => by
  obtain ⟨i, hi, e⟩ := List.getElem_of_mem hx
  exact ⟨i, hi, by simp [atL, hi, e]⟩
set_option maxRecDepth 10000 in
set_option maxHeartbeats 1000000 in
theorem begin_any (v1 v2 : Value) (n m B1 B2 : Nat) (f h : Nat → ByteArray) (w : World) (hG : MaxI w) (h1 : SliceS w B1 v1 n f) (h2 : SliceS w B2 v2 m h) (l1 : n ≤ 1048576) (l2 : m ≤ 1048576) (hm : 1 ≤ m) (hf : ∀ i, i < n → (f i).size ≤ 1048576) :
    Calls Tryd.prog 56 #[v1, v2] w fun e w' => e = .returned (.int .i64 (beginN n f m h : Nat)) ∧ Below w.heap.size w w' := by
  have H2 : Hid (SliceS w B2 v2 m h) := h2
  have HG : Hid (MaxI w) := hG
  have KA : Hid (Calls Tryd.prog 77 #[v1] w fun e w' => ∃ ve vo, e = .returned (.tuple #[ve, vo]) ∧ SliceS w' w.heap.size ve (exL f n).length (atL (exL f n)) ∧ SliceS w' w.heap.size vo (otL f n).length (atL (otL f n)) ∧ Below w.heap.size w w') := apart_any v1 n B1 f w h1 l1
  have e1 := exL_len f n
  have e2 := otL_len f n
  have KL : Hid (∀ (v : Value) (B : Nat) (W : World), MaxI W → SliceS W B v (exL f n).length (atL (exL f n)) → SliceS W B2 v2 m h → Calls Tryd.prog 78 #[v, v2] W fun e w' => e = .returned (.int .i64 (longN (exL f n) m h : Nat)) ∧ Below W.heap.size W w') :=
    fun v B W a b c => longest_any v v2 B B2 m (exL f n) h W a b c (by omega) l2 (exL_small hf)
  have KO : Hid (∀ (v : Value) (B : Nat) (W : World), MaxI W → SliceS W B v (otL f n).length (atL (otL f n)) → SliceS W B2 v2 m h → Calls Tryd.prog 78 #[v, v2] W fun e w' => e = .returned (.int .i64 (longN (otL f n) m h : Nat)) ∧ Below W.heap.size W w') :=
    fun v B W a b c => longest_any v v2 B B2 m (otL f n) h W a b c (by omega) l2 (otL_small hf)
  have b1 := longN_le (exL f n) m h
  have b2 := longN_le (otL f n) m h
  have EB : Hid (beginN n f m h = if longN (exL f n) m h < m then longN (exL f n) m h + 1 else min (longN (otL f n) m h) (m - 1)) := rfl
  obtain ⟨p2, c2, rfl, -⟩ := h2
  clear hG h1 hf e1 e2
  generalize beginN n f m h = R at *
  generalize longN (exL f n) m h = x at *
  generalize longN (otL f n) m h = y at *
  go_enter Tryd.func56, Tryd.ntmps56
  go_wp2_with fail
  refine KA.out.mono ?_
  rintro e w1 ⟨ve, vo, rfl, se, so, hb1⟩
  have SO : Hid (SliceS w1 w.heap.size vo (otL f n).length (atL (otL f n))) := so
  have SE : Hid (SliceS w1 w.heap.size ve (exL f n).length (atL (exL f n))) := se
  have B1' : Hid (Below w.heap.size w w1) := hb1
  clear se so hb1
  go_wp2_with fail
  refine (KL.out ve _ w1 (HG.out.on B1'.out) SE.out (H2.out.below B1'.out)).mono ?_
  rintro e w2 ⟨rfl, hb2⟩
  have SO2 : Hid (SliceS w2 w.heap.size vo (otL f n).length (atL (otL f n))) := SO.out.below hb2
  have B2' : Hid (Below w.heap.size w w2) := B1'.out.trans (hb2.mono B1'.out.size)
  clear hb2 SO SE
  by_cases hx : x < m
  · have HQ : Hid (R = x + 1) := by show _ = _; rw [EB.out, if_pos hx]
    go_wp2
    go_ret
    exact ⟨ret_int (by rw [HQ.out]; omega), B2'.out⟩
  · have HQ : Hid (R = min y (m - 1)) := by show _ = _; rw [EB.out, if_neg hx]
    have KO2 := KO.out vo _ w2 (HG.out.on B2'.out) SO2.out (H2.out.below B2'.out)
    go_wp2_with fail
    refine KO2.mono ?_
    rintro e w3 ⟨rfl, hb3⟩
    clear KO2
    go_wp2
    go_ret
    exact ⟨ret_int (by rw [HQ.out]; omega), B2'.out.trans (hb3.mono B2'.out.size)⟩
end Go.Proofs.YtddlnbmkknbegaaDoor

/- The walk of the specification's LabelsOf. -/
namespace Go.Proofs.YtddlnbmkknbegaaDoor
open Go.RowKit

end Go.Proofs.YtddlnbmkknbegaaDoor

/- The law FnExactLabelsOf, walked, over what the program's LabelsOf answers. -/
namespace Go.Proofs.YtddlnbmkknbegaaDoor
open Go.RowKit

/-- a right host's labels, else none -/
def labelsL (s : ByteArray) : List ByteArray := if hostB s = true then splitB s 46 else []
theorem labelsL_len (s : ByteArray) : (labelsL s).length ≤ 101 := by
  unfold labelsL
  split
  · rename_i h
    have hsz : s.size ≤ 100 := by
      by_cases hz : 100 < s.size
      · rw [hostB_size hz] at h; cases h
      · omega
    have := splitB_len s 46
    omega
  · simp

theorem SliceS.far {w w' : World} {B n : Nat} {v : Value} {f : Nat → ByteArray} {K : Nat} (h : SliceS w B v n f) (hK : w.heap.size ≤ K) {u : World} (hs : SliceS u B v n f) (hb : Below K u w') : SliceS w' B v n f := by
  cases n with
  | zero =>
    obtain ⟨p, cap, rfl, h⟩ := hs
    exact ⟨p, cap, rfl, fun h => absurd h (by omega)⟩
  | succ n => exact hs.kept hb (fun g cap m e => Nat.lt_of_lt_of_le (h.lt g cap m e) hK)

end Go.Proofs.YtddlnbmkknbegaaDoor

/- The walk of together: two texts put together in new memory. -/
namespace Go.Proofs.YtddlnbmkknbegaaDoor
open Go.RowKit


set_option maxRecDepth 10000 in
set_option maxHeartbeats 400000 in
theorem together_full (x y : ByteArray) (w : World) (hz : x.size + y.size ≤ 1000000) (hy : ¬ y = ByteArray.empty) :
    Calls Tryd.prog 51 #[.string x, .string y] w fun e w' => e = .returned (.string (x ++ y)) ∧ Below w.heap.size w w' := by
  obtain ⟨w1, Z, hmk, HG1, hZ, hs1, hb1⟩ := make_row (P := Tryd.prog) w 22 5 _ Tryd.underlying22 infoU8 ((x.size : Int) + (y.size : Int)) (x.size + y.size) (by omega) (by omega)
  go_enter Tryd.func51, Tryd.ntmps51
  go_wp2_with fail
  obtain ⟨w2, hc2, HG2, hs2, hB2⟩ := copy_text (P := Tryd.prog) w1 22 9 3 5 Tryd.underlying22 sizeU8 (some ⟨w.heap.size, 0, none⟩) (x.size + y.size) (x.size + y.size) x (by omega) w.heap.size 0 Z _ HG1 (fun _ => rfl) (by omega)
  have hb2 := hB2 _ _ hb1 (Nat.le_refl _)
  rw [hc2]
  clear hc2 hmk hB2 HG1 hb1
  go_wp2_with fail
  have hl2 : (splice Z 0 (Lib.byteCells x.data.toList)).length = x.size + y.size := by rw [length_splice _ _ _ (by rw [len_cells]; omega), hZ]
  obtain ⟨w3, hc3, HG3, hs3, hB3⟩ := copy_text (P := Tryd.prog) w2 22 9 3 5 Tryd.underlying22 sizeU8 (some ⟨w.heap.size, x.size, none⟩) y.size y.size y (by omega) w.heap.size x.size _ _ HG2 (fun _ => rfl) (by omega)
  have hb3 := hB3 _ _ hb2 (Nat.le_refl _)
  have HG4 : RowAt w3 w.heap.size 5 (Lib.byteCells (x.data.toList ++ y.data.toList) ++ []) := by
    have e := splice_two Z (Lib.byteCells x.data.toList) (Lib.byteCells y.data.toList) (by rw [len_cells, len_cells]; exact hZ)
    rw [len_cells] at e
    rw [e, ← byteCells_append, ← List.append_nil (Lib.byteCells _)] at HG3
    exact HG3
  rw [hc3]
  clear hc3 hB3 HG2 HG3 hb2 hl2
  go_wp2_with fail
  rw [text_of_row (P := Tryd.prog) w3 22 9 5 Tryd.underlying22 Tryd.underlying5 Tryd.underlying9 w.heap.size (x.size + y.size) (x.size + y.size) 5 _ _ HG4 (by rw [List.length_append, ← Lib.size_eq, ← Lib.size_eq])]
  go_wp2
  go_ret
  exact ⟨ret_text (text_append x y), hb3⟩

set_option maxRecDepth 10000 in
set_option maxHeartbeats 400000 in
theorem together_empty (x : ByteArray) (w : World) (hz : x.size ≤ 1000000) :
    Calls Tryd.prog 51 #[.string x, .string ByteArray.empty] w fun e w' => e = .returned (.string x) ∧ Below w.heap.size w w' := by
  obtain ⟨w1, Z, hmk, HG1, hZ, hs1, hb1⟩ := make_row (P := Tryd.prog) w 22 5 _ Tryd.underlying22 infoU8 (x.size : Int) x.size (by omega) (by omega)
  go_enter Tryd.func51, Tryd.ntmps51
  go_wp2_with fail
  obtain ⟨w2, hc2, HG2, hs2, hB2⟩ := copy_text (P := Tryd.prog) w1 22 9 3 5 Tryd.underlying22 sizeU8 (some ⟨w.heap.size, 0, none⟩) x.size x.size x (by omega) w.heap.size 0 Z _ HG1 (fun _ => rfl) (by omega)
  have hb2 := hB2 _ _ hb1 (Nat.le_refl _)
  rw [hc2]
  clear hc2 hmk hB2 HG1 hb1
  go_wp2_with fail
  have HG4 : RowAt w2 w.heap.size 5 (Lib.byteCells x.data.toList ++ []) := by
    have e : splice Z 0 (Lib.byteCells x.data.toList) = Lib.byteCells x.data.toList ++ [] := by
      unfold splice
      rw [List.drop_eq_nil_of_le (by rw [len_cells]; omega)]
      simp
    rw [e] at HG2
    exact HG2
  rw [Lib.run_copy_empty_string (P := Tryd.prog) w2 22 9 3 5 (some ⟨w.heap.size, 0, none⟩) 0 0 ByteArray.empty Tryd.underlying22 (by rw [Option.isSome_iff_exists]; exact ⟨1, sizeU8⟩) rfl]
  go_wp2_with fail
  rw [text_of_row (P := Tryd.prog) w2 22 9 5 Tryd.underlying22 Tryd.underlying5 Tryd.underlying9 w.heap.size x.size x.size 5 _ _ HG4 (by rw [← Lib.size_eq])]
  go_wp2
  go_ret
  exact ⟨rfl, hb2⟩
theorem together_any (x y : ByteArray) (w : World) (hz : x.size + y.size ≤ 1000000) :
    Calls Tryd.prog 51 #[.string x, .string y] w fun e w' => e = .returned (.string (x ++ y)) ∧ Below w.heap.size w w' := by
  by_cases hy : y = ByteArray.empty
  · subst hy
    rw [ByteArray.append_empty]
    exact together_empty x w (by omega)
  · exact together_full x y w hz hy

end Go.Proofs.YtddlnbmkknbegaaDoor

/- The walk of the program's LabelsOf. -/
namespace Go.Proofs.YtddlnbmkknbegaaDoor
open Go.RowKit

theorem atL_get {L : List ByteArray} {k : Nat} (h : k < L.length) : atL L k = L[k] := by simp [atL, h]

set_option maxRecDepth 10000 in
set_option maxHeartbeats 400000 in
theorem labelsOf_cap (s : ByteArray) (w : World) (hG : MaxI w) (hs : s.size ≤ 1048576) :
    Calls Tryd.prog 55 #[.string s] w fun e w' => ∃ v, e = .returned v ∧ SliceS w' w.heap.size v (labelsL s).length (atL (labelsL s)) ∧ Below w.heap.size w w' ∧ ∃ p c, v = .slice p (labelsL s).length c ∧ (labelsL s).length ≤ c := by
  cases hh : hostB s with
  | false =>
    have HL : Hid (labelsL s = []) := by
      show _ = _
      rw [labelsL, if_neg (by simp [hh])]
    have HC : Hid (Calls Tryd.prog 45 #[.string s] w fun e w' => e = .returned (.bool false) ∧ Below w.heap.size w w') := by
      have := hostRight_any s w hG hs
      rw [hh] at this; exact this
    clear hh hG
    go_enter Tryd.func55, Tryd.ntmps55
    go_wp2_with (go_at_call 45; refine HC.out.mono ?_; rintro e w1 ⟨rfl, hb⟩)
    go_ret
    exact ⟨_, rfl, by rw [HL.out]; exact ⟨none, 0, rfl, fun h => absurd h (by simp)⟩, hb, by rw [HL.out]; exact ⟨_, _, rfl, Nat.le_refl _⟩⟩
  | true =>
    have HL : Hid (labelsL s = splitB s 46) := by
      show _ = _
      rw [labelsL, if_pos hh]
    have HC : Hid (Calls Tryd.prog 45 #[.string s] w fun e w' => e = .returned (.bool true) ∧ Below w.heap.size w w') := by
      have := hostRight_any s w hG hs
      rw [hh] at this; exact this
    have HS : Hid (∀ W, MaxI W → Calls Tryd.prog 50 #[.string s, .string ⟨#[46]⟩] W fun e w' => e = .returned (.slice (some ⟨W.heap.size, 0, none⟩) (splitB s 46).length (splitB s 46).length) ∧ w' = W.alloc (.cells (strCells (splitB s 46)).toArray 9)) := fun W h => split_call s W h (by omega)
    have hn := splitB_len s 46
    have hsz : s.size ≤ 100 := by
      by_cases hz : 100 < s.size
      · rw [hostB_size hz] at hh; cases hh
      · omega
    have HZ : Hid (∀ x ∈ splitB s 46, x.size ≤ 100) := fun x hx => Nat.le_trans (piece_le hx) hsz
    have HG : Hid (MaxI w) := hG
    clear hh hG
    rw [HL.out]
    clear HL
    generalize splitB s 46 = L at *
    go_enter Tryd.func55, Tryd.ntmps55
    go_wp2_with (go_at_call 45; refine HC.out.mono ?_; rintro e w1 ⟨rfl, hb⟩)
    refine (HS.out _ (HG.out.on hb)).mono ?_
    rintro e w2 ⟨rfl, rfl⟩
    have hcell : ∀ k (h : k < L.length), (w1.alloc (.cells (strCells L).toArray 9)).cell? ⟨w1.heap.size, k, none⟩ = some (.string L[k]) ∧ (w1.alloc (.cells (strCells L).toArray 9)).frozen? ⟨w1.heap.size, k, none⟩ = false := by
      intro k hk
      exact ⟨by simp [strCells, hk], by simp⟩
    have hb2 : Below w.heap.size w (w1.alloc (.cells (strCells L).toArray 9)) := hb.alloc hb.size _
    have hz1 : w1.heap.size < (w1.alloc (.cells (strCells L).toArray 9)).heap.size := by simp
    have hz0 := hb.size
    generalize w1.alloc (.cells (strCells L).toArray 9) = w2 at *
    clear hb
    have HC0 : Hid (∀ k (h : k < L.length), w2.cell? ⟨w1.heap.size, k, none⟩ = some (.string L[k]) ∧ w2.frozen? ⟨w1.heap.size, k, none⟩ = false) := hcell
    have HB0 : Hid (Below w.heap.size w w2) := hb2
    clear hcell hb2
    go_wp2
    go_loopw [13] (fun i wr => ∃ k : Nat, k ≤ L.length ∧ i = .int .i64 k ∧ w1.heap.size < wr.heap.size ∧ Hid (Below w.heap.size w wr) ∧ Hid (∀ j (h : j < L.length), wr.cell? ⟨w1.heap.size, j, none⟩ = some (.string L[j]) ∧ wr.frozen? ⟨w1.heap.size, j, none⟩ = false)) (fun i _ => L.length - (intOf i).toNat)
    case atStart => exact ⟨0, by omega, rfl, hz1, HB0, HC0⟩
    case round =>
      obtain ⟨k, hk, rfl, hzr, HB, HR⟩ := hrel
      by_cases hlt : k < L.length
      · have hck := (HR.out k hlt).1
        have HT : Hid (∀ W, Calls Tryd.prog 51 #[.string L[k], .string ⟨#[]⟩] W fun e w' => e = .returned (.string L[k]) ∧ Below W.heap.size W w') := fun W => together_empty L[k] W (by have := HZ.out L[k] (List.getElem_mem hlt); omega)
        generalize hx : L[k] = x at *
        have HX : Hid (L[k] = x) := hx
        clear hx
        go_wp2_with fail
        refine (HT.out _).mono ?_
        rintro e w3 ⟨rfl, hb3⟩
        have hz3 := hb3.size
        have c1 : w3.cell? ⟨w1.heap.size, k, none⟩ = some (.string x) := by rw [(bcell hb3).1 _ _ hzr]; exact hck
        have c2 : w3.frozen? ⟨w1.heap.size, k, none⟩ = false := by rw [(bcell hb3).2 _ _ hzr]; exact (HR.out k hlt).2
        have HR3 : Hid (∀ j (h : j < L.length), w3.cell? ⟨w1.heap.size, j, none⟩ = some (.string L[j]) ∧ w3.frozen? ⟨w1.heap.size, j, none⟩ = false) := fun j hj => ⟨by rw [(bcell hb3).1 _ _ hzr]; exact (HR.out j hj).1, by rw [(bcell hb3).2 _ _ hzr]; exact (HR.out j hj).2⟩
        have HB3 : Hid (Below w.heap.size w w3) := HB.out.trans (hb3.mono (by omega))
        clear hb3 hck
        go_wp2
        go_roundw
        case rel =>
          refine ⟨k + 1, by omega, by go_num, ?_, ?_, ?_⟩
          · simp [World.setCell]; omega
          · exact HB3.out.setCell (by simpa using hz0) _
          · intro j hj
            by_cases e : j = k
            · subst e
              rw [HX.out]
              exact ⟨World.cell?_setCell_same _ _ _ c1, by rw [World.frozen?_setCell]; exact c2⟩
            · rw [World.cell?_setCell_other _ _ _ _ (by intro h; injection h with _ h; exact e h.symm), World.frozen?_setCell]
              exact HR3.out j hj
        case measure => simp [intOf]; omega
      · go_wp2
        go_ret
        exact ⟨_, rfl, ⟨_, _, rfl, fun _ => ⟨w1.heap.size, rfl, hz0, hzr, fun j hj => by rw [atL_get hj]; exact HR.out j hj⟩⟩, HB.out, _, _, rfl, Nat.le_refl _⟩
theorem labelsOf_any (s : ByteArray) (w : World) (hG : MaxI w) (hs : s.size ≤ 1048576) :
    Calls Tryd.prog 55 #[.string s] w fun e w' => ∃ v, e = .returned v ∧ SliceS w' w.heap.size v (labelsL s).length (atL (labelsL s)) ∧ Below w.heap.size w w' :=
  (labelsOf_cap s w hG hs).mono fun _ _ ⟨v, he, h1, h2, _⟩ => ⟨v, he, h1, h2⟩
end Go.Proofs.YtddlnbmkknbegaaDoor
