/- Grants as plain functions: what is right, which stands ahead, who is live, what goes and what is put. -/
import Derived.Test.YtehnklgpdjfcgaaGrantOwn
import Derived.Test.YtehnklgpdjfcgaaOrderT
namespace Go.Proofs.Ytehnklgpdjfcgaa
open Go.RowKit

def siteG (t : ByteArray) : Bool := decide (1 ≤ t.size) && decide (t.size ≤ 120)
def timeG (n : Int) : Bool := decide (0 ≤ n) && decide (n ≤ 1000000)
def grB (g : Gr) : Bool := siteG g.tp && siteG g.si && timeG g.un
def keyG (g : Gr) : List UInt8 × List UInt8 := (g.tp.data.toList, g.si.data.toList)
/-- one stands ahead of another -/
def grLess (a b : Gr) : Bool := Op.bytesLess a.tp.toList b.tp.toList || ((a.tp.toList == b.tp.toList) && Op.bytesLess a.si.toList b.si.toList)
def ordG (a b : Gr) : Int := if Lib.compareBytes a.tp.data.toList b.tp.data.toList = 0 then Lib.compareBytes a.si.data.toList b.si.data.toList else Lib.compareBytes a.tp.data.toList b.tp.data.toList
theorem grLess_iff (a b : Gr) : grLess a b = true ↔ ltK (keyG a) (keyG b) := by
  unfold grLess ltK keyG
  simp only [Lib.toList_data, Bool.or_eq_true, Bool.and_eq_true, beq_iff_eq, less_iff]
theorem grLess_no (a b : Gr) : grLess a b = false ↔ ¬ ltK (keyG a) (keyG b) := by rw [← grLess_iff, Bool.not_eq_true]
theorem ordG_eq (a b : Gr) : ordG a b = cmpK (keyG a) (keyG b) := rfl
theorem ordG_neg (a b : Gr) : decide (0 ≤ ordG a b) = !(grLess a b) := by
  rw [ordG_eq]
  rcases cmpK_eq (keyG a) (keyG b) with ⟨h, e⟩ | ⟨h, e⟩ | ⟨h, e⟩
  · rw [e, (grLess_iff a b).2 h]; rfl
  · rw [e, (grLess_no a b).2 (by rw [h]; exact ltK_irrefl _)]; rfl
  · rw [e, (grLess_no a b).2 (fun h2 => ltK_irrefl _ (ltK_trans h h2))]; rfl
theorem ordG_pos (a b : Gr) : decide (0 < ordG a b) = grLess b a := by
  rw [ordG_eq]
  rcases cmpK_eq (keyG a) (keyG b) with ⟨h, e⟩ | ⟨h, e⟩ | ⟨h, e⟩
  · rw [e, (grLess_no b a).2 (fun h2 => ltK_irrefl _ (ltK_trans h h2))]; rfl
  · rw [e, (grLess_no b a).2 (by rw [h]; exact ltK_irrefl _)]; rfl
  · rw [e, (grLess_iff b a).2 h]; rfl
theorem grLess_trans {a b c : Gr} (h1 : grLess a b = true) (h2 : grLess b c = true) : grLess a c = true := by
  rw [grLess_iff] at *; exact ltK_trans h1 h2
theorem grLess_asymm {a b : Gr} (h : grLess a b = true) : grLess b a = false := by
  rw [grLess_no]; rw [grLess_iff] at h; exact fun h2 => ltK_irrefl _ (ltK_trans h h2)
def riseG (L : List Gr) (i : Nat) : Bool := decide (i = 0) || grLess (atG L (i - 1)) (atG L i)
def okG (L : List Gr) (i : Nat) : Bool := grB (atG L i) && riseG L i
def allG (L : List Gr) : Bool := decide (∀ i, i < L.length → okG L i = true)
def grantsB (L : List Gr) : Bool := decide (L.length ≤ 8) && allG L
theorem grantsB_long {L : List Gr} (h : 8 < L.length) : grantsB L = false := by unfold grantsB; rw [decide_eq_false (by omega)]; rfl
theorem allG_at {L : List Gr} (i : Nat) (h : i < L.length) (hi : okG L i = false) : allG L = false := by
  unfold allG
  exact decide_eq_false (fun h' => by rw [h' i h] at hi; cases hi)
theorem grantsB_at {L : List Gr} (i : Nat) (h : i < L.length) (hi : okG L i = false) : grantsB L = false := by
  unfold grantsB
  rw [allG_at i h hi, Bool.and_false]
theorem allG_all {L : List Gr} (ha : ∀ i, i < L.length → okG L i = true) : allG L = true := decide_eq_true ha
theorem grantsB_all {L : List Gr} (ha : ∀ i, i < L.length → okG L i = true) : grantsB L = decide (L.length ≤ 8) := by
  unfold grantsB; rw [allG_all ha, Bool.and_true]
theorem grantsB_parts {L : List Gr} (h : grantsB L = true) : L.length ≤ 8 ∧ ∀ i, i < L.length → okG L i = true := by
  unfold grantsB allG at h
  simp only [Bool.and_eq_true, decide_eq_true_eq] at h
  exact h
theorem okG_no {L : List Gr} {i : Nat} (h : grB (atG L i) = false) : okG L i = false := by unfold okG; rw [h]; rfl
theorem okG_flat {L : List Gr} {m : Nat} (h : grLess (atG L m) (atG L (m + 1)) = false) : okG L (m + 1) = false := by
  unfold okG riseG; rw [Nat.add_sub_cancel, h, decide_eq_false (by omega)]; simp
theorem okG_first {L : List Gr} (h : grB (atG L 0) = true) : okG L 0 = true := by unfold okG riseG; rw [h]; rfl
theorem okG_next {L : List Gr} {m : Nat} (h : grB (atG L (m + 1)) = true) (h2 : grLess (atG L m) (atG L (m + 1)) = true) : okG L (m + 1) = true := by
  unfold okG riseG; rw [h, Nat.add_sub_cancel, h2, Bool.or_true]; rfl
theorem okG_succ {L : List Gr} {k : Nat} (h : ∀ i, i < k → okG L i = true) (hk : okG L k = true) : ∀ i, i < k + 1 → okG L i = true := by
  intro i hi
  by_cases e : i = k
  · subst e; exact hk
  · exact h i (by omega)
theorem siteG_size {t : ByteArray} (h : siteG t = true) : 1 ≤ t.size ∧ t.size ≤ 120 := by
  unfold siteG at h
  simp only [Bool.and_eq_true, decide_eq_true_eq] at h; exact h
theorem grB_parts {g : Gr} (h : grB g = true) : siteG g.tp = true ∧ siteG g.si = true ∧ timeG g.un = true := by
  unfold grB at h
  simp only [Bool.and_eq_true] at h; exact ⟨h.1.1, h.1.2, h.2⟩
theorem okG_right {L : List Gr} {i : Nat} (h : okG L i = true) : grB (atG L i) = true := by unfold okG at h; rw [Bool.and_eq_true] at h; exact h.1
theorem okG_rise {L : List Gr} {m : Nat} (h : okG L (m + 1) = true) : grLess (atG L m) (atG L (m + 1)) = true := by
  unfold okG riseG at h
  rw [Bool.and_eq_true, Nat.add_sub_cancel, decide_eq_false (by omega), Bool.false_or] at h
  exact h.2
/-- rising -/
def RiseG (L : List Gr) : Prop := L.Pairwise (fun a b => grLess a b = true)
theorem atG_get {L : List Gr} {j : Nat} (h : j < L.length) : atG L j = L[j] := by simp [atG, h]
theorem okG_less {L : List Gr} (h : ∀ i, i < L.length → okG L i = true) : ∀ (d i : Nat), i + d + 1 < L.length → grLess (atG L i) (atG L (i + d + 1)) = true
  | 0, i, hi => okG_rise (h (i + 1) hi)
  | d + 1, i, hi => grLess_trans (okG_less h d i (by omega)) (okG_rise (h (i + (d + 1) + 1) hi))
theorem grants_rise {L : List Gr} (h : grantsB L = true) : RiseG L := by
  have h2 := (grantsB_parts h).2
  refine List.pairwise_iff_getElem.2 fun i j hi hj hij => ?_
  have := okG_less h2 (j - i - 1) i (by omega)
  rw [show i + (j - i - 1) + 1 = j by omega] at this
  rwa [atG_get hi, atG_get hj] at this
theorem rise_filterG {L : List Gr} (h : RiseG L) (p : Gr → Bool) : RiseG (L.filter p) := List.Pairwise.filter p h
theorem riseG_at {L : List Gr} (hr : RiseG L) {i j : Nat} (hij : i < j) (hj : j < L.length) : grLess (atG L i) (atG L j) = true := by
  rw [atG_get (by omega), atG_get hj]
  exact (List.pairwise_iff_getElem.1 hr) i j (by omega) hj hij
/-- the one of both -/
def isG (tp si : ByteArray) (g : Gr) : Bool := (g.tp.toList == tp.toList) && (g.si.toList == si.toList)
theorem isG_iff (tp si : ByteArray) (g : Gr) : isG tp si g = true ↔ keyG g = (tp.data.toList, si.data.toList) := by
  unfold isG keyG
  simp only [Lib.toList_data, Bool.and_eq_true, beq_iff_eq, Prod.mk.injEq]
def liveG (now : Int) (g : Gr) : Bool := decide (now < g.un)
/-- all that is asked with is right -/
def mayG (L : List Gr) (tp si : ByteArray) (now : Int) : Bool := grantsB L && siteG tp && siteG si && timeG now
theorem mayG_parts {L : List Gr} {tp si : ByteArray} {now : Int} (h : mayG L tp si now = true) : grantsB L = true ∧ siteG tp = true ∧ siteG si = true ∧ timeG now = true := by
  unfold mayG at h
  simp only [Bool.and_eq_true] at h
  exact ⟨h.1.1.1, h.1.1.2, h.1.2, h.2⟩
def hereG (L : List Gr) (tp si : ByteArray) (now : Int) : Bool := L.any (fun g => isG tp si g && liveG now g)
def liveB8 (L : List Gr) (tp si : ByteArray) (now : Int) : Bool := mayG L tp si now && hereG L tp si now
theorem hereG_at {L : List Gr} {tp si : ByteArray} {now : Int} {k : Nat} (hr : RiseG L) (hk : k < L.length) (h : isG tp si (atG L k) = true) : hereG L tp si now = liveG now (atG L k) := by
  cases hl : liveG now (atG L k) with
  | true =>
    refine List.any_eq_true.2 ⟨atG L k, by rw [atG_get hk]; exact List.getElem_mem hk, by rw [h, hl]; rfl⟩
  | false =>
    refine List.any_eq_false.2 fun x hx => ?_
    obtain ⟨j, hj, rfl⟩ := List.mem_iff_getElem.1 hx
    intro h2
    rw [Bool.and_eq_true] at h2
    rw [← atG_get hj] at h2
    have e : keyG (atG L j) = keyG (atG L k) := by rw [(isG_iff _ _ _).1 h2.1, (isG_iff _ _ _).1 h]
    by_cases e1 : j = k
    · subst e1; rw [hl] at h2; exact absurd h2.2 (by decide)
    · rcases Nat.lt_or_gt_of_ne e1 with e2 | e2
      · have := (grLess_iff _ _).1 (riseG_at hr e2 hk)
        rw [e] at this; exact ltK_irrefl _ this
      · have := (grLess_iff _ _).1 (riseG_at hr e2 hj)
        rw [e] at this; exact ltK_irrefl _ this
theorem hereG_none {L : List Gr} {tp si : ByteArray} {now : Int} (h : ∀ j, j < L.length → isG tp si (atG L j) = false) : hereG L tp si now = false := by
  refine List.any_eq_false.2 fun x hx => ?_
  obtain ⟨j, hj, rfl⟩ := List.mem_iff_getElem.1 hx
  have := h j hj
  rw [atG_get hj] at this
  rw [this]; simp
/-- those of the first k that stay -/
def keepG (p : Gr → Bool) (L : List Gr) (k : Nat) : List Gr := (L.take k).filter p
theorem keepG_zero (p : Gr → Bool) (L : List Gr) : keepG p L 0 = [] := rfl
theorem keepG_yes {p : Gr → Bool} {L : List Gr} {k : Nat} (hk : k < L.length) (h : p (atG L k) = true) : keepG p L (k + 1) = keepG p L k ++ [atG L k] := by
  have e : L.take (k + 1) = L.take k ++ [atG L k] := by
    rw [List.take_succ_eq_append_getElem hk, atG_get hk]
  unfold keepG
  rw [e, List.filter_append]
  simp [h]
theorem keepG_no {p : Gr → Bool} {L : List Gr} {k : Nat} (hk : k < L.length) (h : p (atG L k) = false) : keepG p L (k + 1) = keepG p L k := by
  have e : L.take (k + 1) = L.take k ++ [atG L k] := by
    rw [List.take_succ_eq_append_getElem hk, atG_get hk]
  unfold keepG
  rw [e, List.filter_append]
  simp [h]
theorem keepG_all (p : Gr → Bool) (L : List Gr) : keepG p L L.length = L.filter p := by unfold keepG; rw [List.take_length]
theorem keepG_len (p : Gr → Bool) (L : List Gr) (k : Nat) : (keepG p L k).length ≤ k := by
  unfold keepG
  refine Nat.le_trans (List.length_filter_le _ _) ?_
  rw [List.length_take]; omega
/-- what is left when the one of both goes, or when the old ones go -/
def dropL (L : List Gr) (tp si : ByteArray) : List Gr := if (grantsB L && siteG tp && siteG si) = true then L.filter (fun g => !(isG tp si g)) else []
def oldG (L : List Gr) (now : Int) : List Gr := if (grantsB L && timeG now) = true then L.filter (liveG now) else []
theorem filter_len8 {L : List Gr} (p : Gr → Bool) (h : grantsB L = true) : (L.filter p).length ≤ 8 := Nat.le_trans (List.length_filter_le _ _) (grantsB_parts h).1
theorem dropL_len (L : List Gr) (tp si : ByteArray) : (dropL L tp si).length ≤ 8 := by
  unfold dropL
  split
  · rename_i h
    simp only [Bool.and_eq_true] at h
    exact filter_len8 _ h.1.1
  · exact Nat.zero_le _
theorem oldG_len (L : List Gr) (now : Int) : (oldG L now).length ≤ 8 := by
  unfold oldG
  split
  · rename_i h
    rw [Bool.and_eq_true] at h
    exact filter_len8 _ h.1
  · exact Nat.zero_le _
/-- an answer: grants, is the touch used, a code -/
structure GO where
  ar : List Gr
  us : Bool
  co : Int
def noG (c : Int) : GO := ⟨[], false, c⟩
/-- those that stay when one of both is put -/
def restG (L : List Gr) (tp si : ByteArray) (now : Int) : List Gr := (L.filter (liveG now)).filter (fun g => !(isG tp si g))
def untilG (now : Int) : Int := if now + 30 ≤ 1000000 then now + 30 else 1000000
def newG (tp si : ByteArray) (now : Int) : Gr := ⟨tp, si, untilG now⟩
def insG (L : List Gr) (x : Gr) : List Gr := L.filter (fun e => grLess e x) ++ x :: L.filter (fun e => grLess x e)
/-- putting into what is right -/
def putR (L : List Gr) (tp si : ByteArray) (now : Int) : GO := if (restG L tp si now).length < 8 then ⟨insG (restG L tp si now) (newG tp si now), false, 0⟩ else noG 9
def fitsG (L : List Gr) (tp si : ByteArray) : Bool := decide (L.length ≤ 400) && decide (tp.size ≤ 8000) && decide (si.size ≤ 8000)
def beginG (L : List Gr) (tp si : ByteArray) (now : Int) : Int := if fitsG L tp si = true then (if mayG L tp si now = true then 0 else 1) else 2
theorem beginG_ok {L : List Gr} {tp si : ByteArray} {now : Int} (h : beginG L tp si now = 0) : mayG L tp si now = true := by
  unfold beginG at h
  split at h
  · split at h
    · assumption
    · cases h
  · cases h
def putG (L : List Gr) (tp si : ByteArray) (now : Int) : GO := if beginG L tp si now = 0 then putR L tp si now else noG (beginG L tp si now)
theorem may_fits {L : List Gr} {tp si : ByteArray} {now : Int} (h : mayG L tp si now = true) : fitsG L tp si = true := by
  obtain ⟨h1, h2, h3, -⟩ := mayG_parts h
  have a := (grantsB_parts h1).1
  have b := (siteG_size h2).2
  have c := (siteG_size h3).2
  unfold fitsG
  rw [decide_eq_true (by omega), decide_eq_true (by omega), decide_eq_true (by omega)]; rfl
theorem begin_may {L : List Gr} {tp si : ByteArray} {now : Int} (h : mayG L tp si now = true) : beginG L tp si now = 0 := by
  unfold beginG; rw [if_pos (may_fits h), if_pos h]
/-- where one is put: those ahead, it, those behind -/
theorem ins_cut {L : List Gr} {x : Gr} {k : Nat} (hk : k ≤ L.length) (hb : ∀ j, j < k → grLess (atG L j) x = true) (he : ∀ j, k ≤ j → j < L.length → grLess x (atG L j) = true) : insG L x = L.take k ++ x :: L.drop k := by
  have e := (List.take_append_drop k L).symm
  have m1 : ∀ y, y ∈ L.take k → grLess y x = true := fun y hy => by
    obtain ⟨j, hj, rfl⟩ := List.mem_iff_getElem.1 hy
    have h1 : j < k := by rw [List.length_take] at hj; omega
    have := hb j h1
    rw [atG_get (by omega)] at this
    rw [List.getElem_take]; exact this
  have m2 : ∀ y, y ∈ L.drop k → grLess x y = true := fun y hy => by
    obtain ⟨j, hj, rfl⟩ := List.mem_iff_getElem.1 hy
    have h2 : k + j < L.length := by rw [List.length_drop] at hj; omega
    have := he (k + j) (by omega) h2
    rw [atG_get h2] at this
    rw [List.getElem_drop]; exact this
  have f1 : L.filter (fun e => grLess e x) = L.take k := by
    refine (congrArg (List.filter (fun e => grLess e x)) e).trans ?_
    rw [List.filter_append, List.filter_eq_self.2 m1, List.filter_eq_nil_iff.2 (fun y hy => by rw [grLess_asymm (m2 y hy)]; decide), List.append_nil]
  have f2 : L.filter (fun e => grLess x e) = L.drop k := by
    refine (congrArg (List.filter (fun e => grLess x e)) e).trans ?_
    rw [List.filter_append, List.filter_eq_self.2 m2, List.filter_eq_nil_iff.2 (fun y hy => by rw [grLess_asymm (m1 y hy)]; decide), List.nil_append]
  unfold insG
  rw [f1, f2]
/-- among those that stay none is of the place of what is put -/
theorem rest_apart {L : List Gr} {tp si : ByteArray} {now : Int} {un : Int} : ∀ y, y ∈ restG L tp si now → grLess y ⟨tp, si, un⟩ = true ∨ grLess ⟨tp, si, un⟩ y = true := by
  intro y hy
  have h := (List.mem_filter.1 hy).2
  rcases ltK_tri (keyG y) (keyG ⟨tp, si, un⟩) with h1 | h1 | h1
  · exact .inl ((grLess_iff _ _).2 h1)
  · rw [(isG_iff tp si y).2 h1] at h; cases h
  · exact .inr ((grLess_iff _ _).2 h1)
theorem restG_len (L : List Gr) (tp si : ByteArray) (now : Int) : (restG L tp si now).length ≤ L.length := Nat.le_trans (List.length_filter_le _ _) (List.length_filter_le _ _)
theorem insG_len (L : List Gr) (x : Gr) : (insG L x).length ≤ L.length + 1 := by
  unfold insG
  rw [List.length_append, List.length_cons]
  have : ∀ (M : List Gr), (M.filter (fun e => grLess e x)).length + (M.filter (fun e => grLess x e)).length ≤ M.length := by
    intro M
    induction M with
    | nil => exact Nat.le_refl _
    | cons a M ih =>
      rw [List.filter_cons, List.filter_cons]
      by_cases h1 : grLess a x = true
      · rw [if_pos h1, if_neg (by rw [grLess_asymm h1]; decide), List.length_cons, List.length_cons]; omega
      · rw [if_neg h1]
        split
        · rw [List.length_cons, List.length_cons]; omega
        · rw [List.length_cons]; omega
  have := this L
  omega
theorem putR_len (L : List Gr) (tp si : ByteArray) (now : Int) : (putR L tp si now).ar.length ≤ 8 := by
  unfold putR
  split
  · have := insG_len (restG L tp si now) (newG tp si now)
    show (insG _ _).length ≤ 8
    omega
  · exact Nat.zero_le _
theorem putG_len (L : List Gr) (tp si : ByteArray) (now : Int) : (putG L tp si now).ar.length ≤ 8 := by
  unfold putG
  split
  · exact putR_len L tp si now
  · exact Nat.zero_le _
/-- the texts of grants are no longer than what is asked -/
def szG (L : List Gr) : Prop := ∀ i, i < L.length → (atG L i).tp.size + (atG L i).si.size ≤ 1048576
end Go.Proofs.Ytehnklgpdjfcgaa
