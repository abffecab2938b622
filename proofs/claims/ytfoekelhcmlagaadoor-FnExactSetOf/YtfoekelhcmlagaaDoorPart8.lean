/- 10 of this claim's texts, one behind the other. -/
import Derived.Test.YtfoekelhcmlagaaDoorPart5
import Derived.Test.YtfoekelhcmlagaaDoorPart7
import Derived.Test.YtfoekelhcmlagaaDoorPart1
import Derived.Test.YtfoekelhcmlagaaDoorPart4
import Derived.Laws.AppendOwnNone
import Derived.Deep.DeepCutAuto
import Derived.Test.YtfoekelhcmlagaaDoorPart2
import Derived.Test.YtfoekelhcmlagaaDoorPart3
/- Who is related: plain facts. -/
namespace Go.Proofs.YtfoekelhcmlagaaDoor
open Go.Maps

def httpsT : ByteArray := ⟨#[104, 116, 116, 112, 115, 58, 47, 47]⟩
/-- a site of a domain, by right rules -/
def siteQ (n : Nat) (f : Nat → ByteArray) (s : ByteArray) : Bool := decide (8 < s.size) && ((s.extract 0 8).toList == [104, 116, 116, 112, 115, 58, 47, 47]) && domB n f (s.extract 8 s.size)
def siteD (n : Nat) (f : Nat → ByteArray) (s : ByteArray) : ByteArray := if siteQ n f s = true then s.extract 8 s.size else ⟨#[]⟩
theorem siteD_yes {n : Nat} {f : Nat → ByteArray} {s : ByteArray} (h : siteQ n f s = true) : siteD n f s = s.extract 8 s.size := by unfold siteD; rw [if_pos h]
theorem siteD_no {n : Nat} {f : Nat → ByteArray} {s : ByteArray} (h : siteQ n f s = false) : siteD n f s = ⟨#[]⟩ := by unfold siteD; rw [if_neg (by rw [h]; decide)]
theorem siteQ_size {n : Nat} {f : Nat → ByteArray} {s : ByteArray} (h : siteQ n f s = true) : 8 < s.size ∧ s.size ≤ 108 ∧ domB n f (s.extract 8 s.size) = true := by
  unfold siteQ at h
  rw [Bool.and_eq_true, Bool.and_eq_true, decide_eq_true_eq] at h
  have := (domB_size h.2).2
  rw [ByteArray.size_extract] at this
  exact ⟨h.1.1, by omega, h.2⟩
theorem isEmpty_size (s : ByteArray) : s.toList.isEmpty = decide (s.size = 0) := by
  rw [Bool.eq_iff_iff, List.isEmpty_iff, decide_eq_true_eq, Lib.toList_data, Lib.size_eq, List.length_eq_zero_iff]
theorem siteD_empty (n : Nat) (f : Nat → ByteArray) (s : ByteArray) : (siteD n f s).toList.isEmpty = !(siteQ n f s) := by
  cases h : siteQ n f s with
  | false => rw [siteD_no h, Lib.toList_data]; rfl
  | true =>
    rw [siteD_yes h, isEmpty_size, ByteArray.size_extract, decide_eq_false (by have := siteQ_size h; omega)]; rfl
/-- the set of a domain -/
def ofS (L : List SetL) (d : ByteArray) : SetL := (L.find? (fun y => hasB y d)).getD (⟨#[]⟩, [])
theorem atS_get {L : List SetL} {k : Nat} (hk : k < L.length) : atS L k = L[k] := by simp [atS, hk]
theorem ofS_hit {L : List SetL} {d : ByteArray} {k : Nat} (hk : k < L.length) (h0 : ∀ j, j < k → hasB (atS L j) d = false) (h : hasB (atS L k) d = true) : ofS L d = atS L k := by
  unfold ofS
  have e : L.find? (fun y => hasB y d) = some L[k] := by
    rw [List.find?_eq_some_iff_getElem]
    refine ⟨by rw [← atS_get hk]; exact h, k, hk, rfl, fun j hj => ?_⟩
    rw [← atS_get (show j < L.length by omega), h0 j hj]; rfl
  rw [e, atS_get hk]; rfl
theorem ofS_none {L : List SetL} {d : ByteArray} (h : ∀ j, j < L.length → hasB (atS L j) d = false) : ofS L d = (⟨#[]⟩, []) := by
  unfold ofS
  have e : L.find? (fun y => hasB y d) = none := by
    rw [List.find?_eq_none]
    intro y hy
    obtain ⟨k, hk, rfl⟩ := List.mem_iff_getElem.1 hy
    rw [← atS_get hk, h k hk]; decide
  rw [e]; rfl
/-- related, of right sets -/
def relB (n : Nat) (f : Nat → ByteArray) (L : List SetL) (a b : ByteArray) : Bool := siteQ n f a && siteQ n f b && (((siteD n f a).toList == (siteD n f b).toList) || hasB (ofS L (siteD n f a)) (siteD n f b))
def relatedB (n : Nat) (f : Nat → ByteArray) (L : List SetL) (a b : ByteArray) : Bool := setsB n f L && relB n f L a b
theorem relatedB_long {n : Nat} {f : Nat → ByteArray} {L : List SetL} {a b : ByteArray} (h : 400 < L.length ∨ 8000 < a.size ∨ 8000 < b.size) : relatedB n f L a b = false := by
  unfold relatedB relB
  rcases h with h | h | h
  · have : setsB n f L = false := by
      unfold setsB
      rw [decide_eq_false (p := L.length ≤ 6) (by omega), Bool.and_false, Bool.false_and]
    rw [this]; rfl
  · have : siteQ n f a = false := by
      cases e : siteQ n f a with
      | false => rfl
      | true => have := siteQ_size e; omega
    rw [this]; simp
  · have : siteQ n f b = false := by
      cases e : siteQ n f b with
      | false => rfl
      | true => have := siteQ_size e; omega
    rw [this]; simp
/-- the place of a site's set -/
def plA (L : List SetL) (s : ByteArray) : Option Nat := if Lib.hasPrefix s.data.toList httpsT.data.toList = true then plOf L L.length (s.extract 8 s.size) else none
/-- what the program asks -/
def relI (n : Nat) (f : Nat → ByteArray) (L : List SetL) (a b : ByteArray) : Bool :=
  if (a.toList == b.toList) = true then Lib.hasPrefix a.data.toList httpsT.data.toList && domR n f (a.extract 8 a.size)
  else match plA L a, plA L b with
    | some i, some j => i == j
    | _, _ => false
theorem plOf_inv (L : List SetL) (x : ByteArray) : ∀ k i, plOf L k x = some i → i < k ∧ hasB (atS L i) x = true
  | 0, _, h => by cases h
  | k + 1, i, h => by
    have h' : plTo (plOf L k) k (allD (atS L k)) (allD (atS L k)).length x = some i := h
    by_cases he : ∃ j, j < (allD (atS L k)).length ∧ (x.toList == (atL (allD (atS L k)) j).toList) = true
    · obtain ⟨j, hj, e⟩ := he
      rw [plTo_in _ _ _ _ _ j hj e] at h'
      obtain rfl := Option.some.inj h'
      exact ⟨by omega, (hasB_iff _ _).2 ⟨j, hj, e⟩⟩
    · rw [plTo_eq _ _ _ _ _ (fun j hj => by
        cases e : (x.toList == (atL (allD (atS L k)) j).toList) with
        | false => rfl
        | true => exact absurd ⟨j, hj, e⟩ he)] at h'
      obtain ⟨h1, h2⟩ := plOf_inv L x k i h'
      exact ⟨by omega, h2⟩
theorem sets_apart {n : Nat} {f : Nat → ByteArray} {L : List SetL} (h : setsB n f L = true) {i j : Nat} (hij : i < j) (hj : j < L.length) {d : ByteArray} (hd : hasB (atS L j) d = true) : hasB (atS L i) d = false := by
  have ho := (setsB_parts h).2.2 j hj
  unfold okS at ho
  rw [Bool.and_eq_true] at ho
  have ha := (apartB_iff L (atS L j) j (by omega)).1 ho.2
  obtain ⟨k, hk, e⟩ := (hasB_iff _ _).1 hd
  have ex : d = atL (allD (atS L j)) k := by
    rw [beq_iff_eq, Lib.toList_data, Lib.toList_data] at e
    cases hx : d
    cases hy : atL (allD (atS L j)) k
    rw [hx, hy] at e
    congr 1
    exact Array.toList_inj.1 e
  rw [ex]
  exact ha k hk i hij
theorem plOf_val {n : Nat} {f : Nat → ByteArray} {L : List SetL} (h : setsB n f L = true) {i : Nat} (hi : i < L.length) {d : ByteArray} (hd : hasB (atS L i) d = true) : plOf L L.length d = some i := by
  have hs : (plOf L L.length d).isSome = true := (plOf_some L d L.length).2 ⟨i, hi, hd⟩
  cases e : plOf L L.length d with
  | none => rw [e] at hs; cases hs
  | some j =>
    obtain ⟨hj, hd'⟩ := plOf_inv L d _ j e
    rcases Nat.lt_trichotomy i j with h' | h' | h'
    · rw [sets_apart h h' hj hd'] at hd; cases hd
    · rw [h']
    · rw [sets_apart h h' hi hd] at hd'; cases hd'
theorem hasB_right {n : Nat} {f : Nat → ByteArray} {x : SetL} (h : setRB n f x = true) {d : ByteArray} (hd : hasB x d = true) : domB n f d = true := by
  obtain ⟨h0, h1, h2, h3⟩ := setRB_parts h
  obtain ⟨k, hk, e⟩ := (hasB_iff _ _).1 hd
  have ex : d = atL (allD x) k := by
    rw [beq_iff_eq, Lib.toList_data, Lib.toList_data] at e
    cases hx : d
    cases hy : atL (allD x) k
    rw [hx, hy] at e
    congr 1
    exact Array.toList_inj.1 e
  rw [ex]
  obtain ⟨p, M⟩ := x
  cases k with
  | zero => exact h0
  | succ k =>
    rw [atD_succ]
    have hk' : k < M.length := by have : (allD (p, M)).length = M.length + 1 := rfl; omega
    have := h3 k hk'
    unfold okM at this
    rw [Bool.and_eq_true, Bool.and_eq_true] at this
    exact this.1.1
theorem pre8 {s : ByteArray} : Lib.hasPrefix s.data.toList httpsT.data.toList = (decide (8 ≤ s.size) && ((s.extract 0 8).toList == [104, 116, 116, 112, 115, 58, 47, 47])) := by
  rw [← Lib.hasPrefix_raw, Lib.toList_data httpsT]
  rfl
theorem siteQ_pre {n : Nat} {f : Nat → ByteArray} {s : ByteArray} : siteQ n f s = (Lib.hasPrefix s.data.toList httpsT.data.toList && domB n f (s.extract 8 s.size)) := by
  rw [pre8]
  unfold siteQ
  by_cases h : 8 < s.size
  · rw [decide_eq_true h, decide_eq_true (by omega)]
  · rw [decide_eq_false h]
    have : domB n f (s.extract 8 s.size) = false := by
      cases e : domB n f (s.extract 8 s.size) with
      | false => rfl
      | true =>
        have := (domB_size e).1
        rw [ByteArray.size_extract] at this; omega
    rw [this]; simp
theorem pre_inj {a b : ByteArray} (ha : Lib.hasPrefix a.data.toList httpsT.data.toList = true) (hb : Lib.hasPrefix b.data.toList httpsT.data.toList = true) (h : ((a.extract 8 a.size).toList == (b.extract 8 b.size).toList) = true) : (a.toList == b.toList) = true := by
  have key : ∀ s : ByteArray, Lib.hasPrefix s.data.toList httpsT.data.toList = true → s.toList = httpsT.data.toList ++ (s.extract 8 s.size).toList := fun s hs => by
    rw [Lib.extract_toList, Lib.toList_data]
    unfold Lib.hasPrefix at hs
    rw [List.isPrefixOf_iff_prefix] at hs
    obtain ⟨t, ht⟩ := hs
    rw [← ht, List.take_of_length_le (by rw [Lib.size_eq, ← ht]; simp)]
    rfl
  rw [beq_iff_eq] at h ⊢
  rw [key a ha, key b hb, h]
theorem relI_right {n : Nat} {f : Nat → ByteArray} {L : List SetL} (hs : setsB n f L = true) (a b : ByteArray) : relI n f L a b = relB n f L a b := by
  have hr : rulesB n f = true := (setsB_parts hs).1
  have hd : ∀ s, domR n f s = domB n f s := fun s => by unfold domR; rw [hr]; rfl
  unfold relI relB
  cases hab : (a.toList == b.toList) with
  | true =>
    have e : a = b := by
      rw [beq_iff_eq, Lib.toList_data, Lib.toList_data] at hab
      cases a; cases b
      congr 1
      exact Array.toList_inj.1 hab
    subst e
    rw [if_pos rfl, hd, ← siteQ_pre, beq_self_eq_true]
    simp
  | false =>
    rw [if_neg (by decide), siteQ_pre (s := a), siteQ_pre (s := b)]
    unfold plA
    cases ha : Lib.hasPrefix a.data.toList httpsT.data.toList with
    | false => simp
    | true =>
      cases hb : Lib.hasPrefix b.data.toList httpsT.data.toList with
      | false => simp
      | true =>
        have hne : ((a.extract 8 a.size).toList == (b.extract 8 b.size).toList) = false := by
          cases e : ((a.extract 8 a.size).toList == (b.extract 8 b.size).toList) with
          | false => rfl
          | true => rw [pre_inj ha hb e] at hab; cases hab
        rw [if_pos rfl, if_pos rfl, Bool.true_and, Bool.true_and]
        have hA : siteQ n f a = domB n f (a.extract 8 a.size) := by rw [siteQ_pre, ha]; rfl
        have hB : siteQ n f b = domB n f (b.extract 8 b.size) := by rw [siteQ_pre, hb]; rfl
        rw [Bool.eq_iff_iff]
        constructor
        · intro h
          cases ea : plOf L L.length (a.extract 8 a.size) with
          | none => rw [ea] at h; cases h
          | some i =>
            cases eb : plOf L L.length (b.extract 8 b.size) with
            | none => rw [ea, eb] at h; cases h
            | some j =>
              rw [ea, eb] at h
              have hij : i = j := by simpa using h
              subst hij
              obtain ⟨hi, h1⟩ := plOf_inv L _ _ i ea
              obtain ⟨-, h2⟩ := plOf_inv L _ _ i eb
              have hok := okS_set ((setsB_parts hs).2.2 i hi)
              have d1 := hasB_right hok h1
              have d2 := hasB_right hok h2
              rw [d1, d2]
              rw [siteD_yes (by rw [hA]; exact d1), siteD_yes (by rw [hB]; exact d2)]
              rw [ofS_hit hi (fun j hj => sets_apart hs hj hi h1) h1, h2]
              simp
        · intro h
          rw [Bool.and_eq_true, Bool.and_eq_true] at h
          obtain ⟨⟨d1, d2⟩, h3⟩ := h
          rw [siteD_yes (by rw [hA]; exact d1), siteD_yes (by rw [hB]; exact d2), hne, Bool.false_or] at h3
          by_cases he : ∃ i, i < L.length ∧ hasB (atS L i) (a.extract 8 a.size) = true
          · obtain ⟨i, hi, h1⟩ := he
            rw [ofS_hit hi (fun j hj => sets_apart hs hj hi h1) h1] at h3
            rw [plOf_val hs hi h1, plOf_val hs hi h3]
            simp
          · rw [ofS_none (fun j hj => by
              cases e : hasB (atS L j) (a.extract 8 a.size) with
              | false => rfl
              | true => exact absurd ⟨j, hj, e⟩ he)] at h3
            exfalso
            have hp := (domB_size d2).1
            unfold hasB allD at h3
            simp only [List.any_cons, List.any_nil, Bool.or_false, beq_iff_eq] at h3
            rw [Lib.toList_data, Lib.toList_data] at h3
            have hz : (b.extract 8 b.size).size = 0 := by rw [Lib.size_eq, ← h3]; rfl
            omega
theorem relI_one {n : Nat} {f : Nat → ByteArray} {L : List SetL} {a b : ByteArray} (h : (a.toList == b.toList) = true) : relI n f L a b = (Lib.hasPrefix a.data.toList httpsT.data.toList && domR n f (a.extract 8 a.size)) := by unfold relI; rw [if_pos h]
theorem relI_two {n : Nat} {f : Nat → ByteArray} {L : List SetL} {a b : ByteArray} (h : (a.toList == b.toList) = false) {i j : Nat} (h1 : plA L a = some i) (h2 : plA L b = some j) : relI n f L a b = (i == j) := by unfold relI; rw [if_neg (by rw [h]; decide), h1, h2]
theorem relI_noA {n : Nat} {f : Nat → ByteArray} {L : List SetL} {a b : ByteArray} (h : (a.toList == b.toList) = false) (h1 : plA L a = none) : relI n f L a b = false := by unfold relI; rw [if_neg (by rw [h]; decide), h1]
theorem relI_noB {n : Nat} {f : Nat → ByteArray} {L : List SetL} {a b : ByteArray} (h : (a.toList == b.toList) = false) (h1 : plA L b = none) : relI n f L a b = false := by
  unfold relI
  rw [if_neg (by rw [h]; decide), h1]
  cases plA L a <;> rfl
end Go.Proofs.YtfoekelhcmlagaaDoor

/- The set of a site: plain facts. -/
namespace Go.Proofs.YtfoekelhcmlagaaDoor

def setOfL (n : Nat) (f : Nat → ByteArray) (L : List SetL) (s : ByteArray) : SetL := if (setsB n f L && siteQ n f s) = true then ofS L (siteD n f s) else (⟨#[]⟩, [])
theorem setOfL_no {n : Nat} {f : Nat → ByteArray} {L : List SetL} {s : ByteArray} (h : setsB n f L = false) : setOfL n f L s = (⟨#[]⟩, []) := by unfold setOfL; rw [h, if_neg (by simp)]
theorem setOfL_off {n : Nat} {f : Nat → ByteArray} {L : List SetL} {s : ByteArray} (h : siteQ n f s = false) : setOfL n f L s = (⟨#[]⟩, []) := by unfold setOfL; rw [h, if_neg (by simp)]
theorem setOfL_yes {n : Nat} {f : Nat → ByteArray} {L : List SetL} {s : ByteArray} (h : setsB n f L = true) (h2 : siteQ n f s = true) : setOfL n f L s = ofS L (siteD n f s) := by unfold setOfL; rw [h, h2]; rfl
theorem setOfL_some {n : Nat} {f : Nat → ByteArray} {L : List SetL} {s : ByteArray} {i : Nat} (hs : setsB n f L = true) (h : plA L s = some i) : i < L.length ∧ setOfL n f L s = atS L i := by
  unfold plA at h
  cases hp : Lib.hasPrefix s.data.toList httpsT.data.toList with
  | false => rw [hp, if_neg (by decide)] at h; cases h
  | true =>
    rw [hp, if_pos rfl] at h
    obtain ⟨hi, h1⟩ := plOf_inv L _ _ i h
    have d1 := hasB_right (okS_set ((setsB_parts hs).2.2 i hi)) h1
    have hq : siteQ n f s = true := by rw [siteQ_pre, hp, d1]; rfl
    rw [setOfL_yes hs hq, siteD_yes hq]
    exact ⟨hi, ofS_hit hi (fun j hj => sets_apart hs hj hi h1) h1⟩
theorem setOfL_none {n : Nat} {f : Nat → ByteArray} {L : List SetL} {s : ByteArray} (hs : setsB n f L = true) (h : plA L s = none) : setOfL n f L s = (⟨#[]⟩, []) := by
  cases hq : siteQ n f s with
  | false => exact setOfL_off hq
  | true =>
    rw [setOfL_yes hs hq, siteD_yes hq]
    rw [siteQ_pre, Bool.and_eq_true] at hq
    unfold plA at h
    rw [hq.1, if_pos rfl] at h
    refine ofS_none (fun j hj => ?_)
    cases e : hasB (atS L j) (s.extract 8 s.size) with
    | false => rfl
    | true =>
      rw [plOf_val hs hj e] at h
      cases h
theorem setOfL_long {n : Nat} {f : Nat → ByteArray} {L : List SetL} {s : ByteArray} (h : 400 < L.length ∨ 8000 < s.size) : setOfL n f L s = (⟨#[]⟩, []) := by
  rcases h with h | h
  · refine setOfL_no ?_
    cases e : setsB n f L with
    | false => rfl
    | true => have := (setsB_parts e).2.1; omega
  · refine setOfL_off ?_
    cases e : siteQ n f s with
    | false => rfl
    | true => have := (siteQ_size e).2.1; omega
theorem setOfL_len {n : Nat} {f : Nat → ByteArray} {L : List SetL} {s : ByteArray} : (setOfL n f L s).2.length ≤ 4 := by
  cases hs : setsB n f L with
  | false => rw [setOfL_no hs]; exact Nat.zero_le _
  | true =>
    cases h : plA L s with
    | none => rw [setOfL_none hs h]; exact Nat.zero_le _
    | some i =>
      obtain ⟨hi, e⟩ := setOfL_some hs h
      rw [e]
      exact (setRB_parts (okS_set ((setsB_parts hs).2.2 i hi))).2.2.1
/-- the k-th set's cells of a book -/
theorem setCs_at : ∀ (T : List (SetL × Value)) (k : Nat) (h : k < T.length), (setCs T)[k * 2]? = some (.string (T[k]'h).1.1) ∧ (setCs T)[k * 2 + 1]? = some (T[k]'h).2
  | [], k, h => absurd h (by simp)
  | t :: T, 0, _ => ⟨rfl, rfl⟩
  | t :: T, k + 1, h => by
    have ih := setCs_at T k (by simpa using h)
    rw [show (k + 1) * 2 = k * 2 + 1 + 1 by omega]
    simpa [setCs] using ih
end Go.Proofs.YtfoekelhcmlagaaDoor

/- The walks of the specification's l05Site, l05Of, l05Related and Related. -/
namespace Go.Proofs.YtfoekelhcmlagaaDoor
open Go.RowKit Go.Maps

set_option maxRecDepth 10000 in
set_option maxHeartbeats 1000000 in
theorem specSite5_any (v : Value) (n B : Nat) (f : Nat → ByteArray) (s : ByteArray) (w : World) (hr : SliceS w B v n f) (l1 : n ≤ 1048576) (hf : ∀ i, i < n → 0 < (f i).size ∧ (f i).size ≤ 1000) :
    Calls Tryd.prog 97 #[v, .string s] w fun e w' => e = .returned (.string (siteD n f s)) ∧ Below w.heap.size w w' := by
  have KD : Hid (Calls Tryd.prog 145 #[v, .string (s.extract 8 s.size)] w fun e w' => e = .returned (.bool (domB n f (s.extract 8 s.size))) ∧ Below w.heap.size w w') := specDomain_any v n B f _ w hr l1 hf
  have HE : Hid (siteQ n f s = (decide (8 < s.size) && ((s.extract 0 8).toList == [104, 116, 116, 112, 115, 58, 47, 47]) && domB n f (s.extract 8 s.size))) := rfl
  have HY : Hid (siteQ n f s = true → siteD n f s = s.extract 8 s.size) := fun h => siteD_yes h
  have HN : Hid (siteQ n f s = false → siteD n f s = ⟨#[]⟩) := fun h => siteD_no h
  clear hr hf
  generalize siteD n f s = R at *
  generalize siteQ n f s = Q at *
  generalize domB n f (s.extract 8 s.size) = bd at *
  by_cases h8 : 8 < s.size
  · have q8 : decide ((8 : Int) < (s.size : Int)) = true := by rw [decide_eq_true_iff]; omega
    cases hp : ((s.extract 0 8).toList == [104, 116, 116, 112, 115, 58, 47, 47]) with
    | false =>
      have HQ : Hid (R = ⟨#[]⟩) := HN.out (by rw [HE.out, hp]; simp)
      go_enter Tryd.func97, Tryd.ntmps97
      go_wp2
      go_ret
      exact ⟨ret_text HQ.out.symm, Below.refl _ _⟩
    | true =>
      go_enter Tryd.func97, Tryd.ntmps97
      go_wp2_with fail
      refine KD.out.mono ?_
      rintro e w1 ⟨rfl, hb1⟩
      cases bd with
      | false =>
        have HQ : Hid (R = ⟨#[]⟩) := HN.out (by rw [HE.out]; simp)
        go_wp2
        go_ret
        exact ⟨ret_text HQ.out.symm, hb1⟩
      | true =>
        have HQ : Hid (R = s.extract 8 s.size) := HY.out (by rw [HE.out, hp, decide_eq_true h8]; rfl)
        go_wp2
        go_ret
        exact ⟨ret_text HQ.out.symm, hb1⟩
  · have q8 : decide ((8 : Int) < (s.size : Int)) = false := by rw [decide_eq_false_iff_not]; omega
    have HQ : Hid (R = ⟨#[]⟩) := HN.out (by rw [HE.out, decide_eq_false h8]; rfl)
    go_enter Tryd.func97, Tryd.ntmps97
    go_wp2
    go_ret
    exact ⟨ret_text HQ.out.symm, Below.refl _ _⟩

set_option maxRecDepth 10000 in
set_option maxHeartbeats 4000000 in
theorem specOf5_any (v : Value) (L : List SetL) (d : ByteArray) (B : Nat) (w : World) (hv : SliceT w B v L) (hL : L.length ≤ 1048576) (hm : ∀ j, j < L.length → 0 < (atS L j).2.length ∧ (atS L j).2.length ≤ 1048576) :
    Calls Tryd.prog 98 #[v, .string d] w fun e w' => ∃ u, e = .returned (.agg #[.string (ofS L d).1, u]) ∧ SliceS w' 0 u (ofS L d).2.length (atL (ofS L d).2) ∧ (0 < (ofS L d).2.length ∨ u = .slice none 0 0) ∧ (ofS L d).2.length ≤ 1048576 ∧ Below w.heap.size w w' := by
  obtain ⟨uu, ⟨p, cap, rfl, hg⟩, hu, -⟩ := hv
  have HG : Hid (0 < L.length → ∃ g, p = some ⟨g, 0, none⟩ ∧ g < w.heap.size ∧ ∀ j, j < L.length → w.cell? ⟨g, j * 2, none⟩ = some (.string (atS L j).1) ∧ w.cell? ⟨g, j * 2 + 1, none⟩ = some (uu j)) := fun h0 => by
    obtain ⟨g, e, -, hgw, hc⟩ := hg h0
    exact ⟨g, e, hgw, fun j hj => ⟨(hc j hj 0 (by omega)).1, (hc j hj 1 (by omega)).1⟩⟩
  have HU : Hid (∀ j, j < L.length → SliceS w B (uu j) (atS L j).2.length (atL (atS L j).2)) := hu
  have HM : Hid (∀ j, j < L.length → 0 < (atS L j).2.length ∧ (atS L j).2.length ≤ 1048576) := hm
  have KH : Hid (∀ j, j < L.length → ∀ W, Below w.heap.size w W → Calls Tryd.prog 147 #[.agg #[.string (atS L j).1, uu j], .string d] W fun e w' => e = .returned (.bool (hasB (atS L j) d)) ∧ Below W.heap.size W w') := fun j hj W hb => specHas_any (atS L j) (uu j) B d W ((hu j hj).below hb) (.inl (hm j hj).1) (hm j hj).2
  have HHit : Hid (∀ k, k < L.length → (∀ j, j < k → hasB (atS L j) d = false) → hasB (atS L k) d = true → ofS L d = atS L k) := fun k a b c => ofS_hit a b c
  have HNone : Hid ((∀ j, j < L.length → hasB (atS L j) d = false) → ofS L d = (⟨#[]⟩, [])) := fun h => ofS_none h
  clear hg hu hm
  generalize ofS L d = R at *
  obtain ⟨W0, hW⟩ : ∃ W0, W0 = w.alloc (.cells #[.string ⟨#[]⟩, .slice none 0 0] 47) := ⟨_, rfl⟩
  have hW0 : Hid (W0 = w.alloc (.cells #[.string ⟨#[]⟩, .slice none 0 0] 47)) := hW
  have HB0 : Hid (Below w.heap.size w W0) := by show Below _ _ _; rw [hW]; exact (Below.refl _ _).alloc (Nat.le_refl _) _
  have z0 : w.heap.size < W0.heap.size := by rw [hW]; simp
  have a0 : W0.cell? ⟨w.heap.size, 0, none⟩ = some (.string ⟨#[]⟩) := by rw [hW]; simp
  have a1 : W0.cell? ⟨w.heap.size, 1, none⟩ = some (.slice none 0 0) := by rw [hW]; simp
  have f0 : W0.frozen? ⟨w.heap.size, 0, none⟩ = false := by rw [hW]; simp
  have f1 : W0.frozen? ⟨w.heap.size, 1, none⟩ = false := by rw [hW]; simp
  clear hW
  go_enter Tryd.func98, Tryd.ntmps98
  go_upto_region 1 with fail
  rw [← hW0.out]
  clear hW0
  go_wp2
  go_loopw [5] (fun i wr => ∃ k : Nat, k ≤ L.length ∧ i = .int .i64 k ∧ Hid (Below W0.heap.size W0 wr) ∧ Hid (∀ j, j < k → hasB (atS L j) d = false)) (fun i _ => L.length - (intOf i).toNat)
  case atStart => exact ⟨0, Nat.zero_le _, rfl, Below.refl _ _, fun j hj => absurd hj (by omega)⟩
  case round =>
    obtain ⟨k, hk, rfl, HB, HR⟩ := hrel
    have BW : Hid (Below w.heap.size w wr) := HB0.out.trans (HB.out.mono HB0.out.size)
    by_cases hlt : k < L.length
    · obtain ⟨g, rfl, hgw, hc⟩ := HG.out (by omega)
      have c0 : wr.cell? ⟨g, k * 2, none⟩ = some (.string (atS L k).1) := ((bcell BW.out).1 _ _ hgw).trans (hc k hlt).1
      have c1 : wr.cell? ⟨g, k * 2 + 1, none⟩ = some (uu k) := ((bcell BW.out).1 _ _ hgw).trans (hc k hlt).2
      have k0 : (0 : Int) ≤ k := by omega
      have k1 : (k : Int) < L.length := by omega
      have KC0 := KH.out k hlt wr BW.out
      have SU := (HU.out k hlt).below BW.out
      obtain ⟨up, uc, hup, -⟩ := id SU
      have HPl : Hid (0 < (atS L k).2.length → ∃ gu, (Value.slice up (atS L k).2.length uc).ownBlock = some gu ∧ gu < w.heap.size) := fun hn => by
        obtain ⟨gu, e, -, h, -⟩ := (HU.out k hlt).place hn
        rw [hup] at e
        exact ⟨gu, e, h⟩
      rw [hup] at KC0 c1 SU
      have SU1 : Hid (SliceS wr B (.slice up (atS L k).2.length uc) (atS L k).2.length (atL (atS L k).2)) := SU
      have HMk := HM.out k hlt
      have HMK : Hid (0 < (atS L k).2.length ∧ (atS L k).2.length ≤ 1048576) := HMk
      have KC : Hid (Calls Tryd.prog 147 #[.agg #[.string (atS L k).1, .slice up (atS L k).2.length uc], .string d] wr fun e w' => e = .returned (.bool (hasB (atS L k) d)) ∧ Below wr.heap.size wr w') := KC0
      have HH : Hid (hasB (atS L k) d = true → R = atS L k) := fun e => HHit.out k hlt HR.out e
      have HN2 : Hid (hasB (atS L k) d = false → ∀ j, j < k + 1 → hasB (atS L j) d = false) := fun e j hj => by
        by_cases e2 : j = k
        · subst e2; exact e
        · exact HR.out j (by omega)
      have hgr : g < wr.heap.size := Nat.lt_of_lt_of_le hgw BW.out.size
      clear hc KC0 SU HMk hup
      generalize hasB (atS L k) d = hb at *
      generalize atS L k = y at *
      obtain ⟨yp, yM⟩ := y
      dsimp only at *
      go_wp2_with fail
      refine KC.out.mono ?_
      rintro e w2 ⟨rfl, hb2⟩
      have d0 : w2.cell? ⟨g, k * 2, none⟩ = some (.string yp) := ((bcell hb2).1 _ _ hgr).trans c0
      have d1 : w2.cell? ⟨g, k * 2 + 1, none⟩ = some (.slice up yM.length uc) := ((bcell hb2).1 _ _ hgr).trans c1
      have B2 : Hid (Below W0.heap.size W0 w2) := HB.out.trans (hb2.mono HB.out.size)
      have S2 : Hid (SliceS w2 B (.slice up yM.length uc) yM.length (atL yM)) := SU1.out.below hb2
      clear hb2 c0 c1
      cases hb with
      | true =>
        have HQ : Hid (R = (yp, yM)) := HH.out rfl
        have r0 : w2.cell? ⟨w.heap.size, 0, none⟩ = some (.string ⟨#[]⟩) := ((bcell B2.out).1 _ _ z0).trans a0
        have r1 : w2.cell? ⟨w.heap.size, 1, none⟩ = some (.slice none 0 0) := ((bcell B2.out).1 _ _ z0).trans a1
        have g0 : w2.frozen? ⟨w.heap.size, 0, none⟩ = false := ((bcell B2.out).2 _ _ z0).trans f0
        have g1 : w2.frozen? ⟨w.heap.size, 1, none⟩ = false := ((bcell B2.out).2 _ _ z0).trans f1
        have hfar : ¬ w.heap.size = g := by omega
        have BW2 : Hid (Below w.heap.size w w2) := HB0.out.trans (B2.out.mono HB0.out.size)
        have HU2 : Hid (∀ x y, SliceS ((w2.setCell ⟨w.heap.size, 0, none⟩ x).setCell ⟨w.heap.size, 1, none⟩ y) 0 (.slice up yM.length uc) yM.length (atL yM)) := fun x y => by
          have hne : 0 < yM.length → (Value.slice up yM.length uc).ownBlock ≠ some w.heap.size := fun hn => by
            obtain ⟨gu, e, h⟩ := HPl.out hn
            rw [e]
            intro e2
            have := Option.some.inj e2
            omega
          exact SliceS.mono ((S2.out.setFar hne).setFar hne) (Nat.zero_le _)
        go_wp2
        exact bodyPost_ret (v := .agg #[.string yp, .slice up yM.length uc]) (by simp [results, Tryd.results98, go_sem, r0, r1]) rfl ⟨.slice up yM.length uc, by rw [HQ.out], by rw [HQ.out]; exact HU2.out _ _, by rw [HQ.out]; exact .inl HMK.out.1, by rw [HQ.out]; exact HMK.out.2, (BW2.out.setCell (Nat.le_refl _) _).setCell (Nat.le_refl _) _⟩
      | false =>
        have HN3 : Hid (∀ j, j < k + 1 → hasB (atS L j) d = false) := HN2.out rfl
        go_wp2
        go_roundw
        case rel => exact ⟨k + 1, by omega, by go_num, B2, HN3⟩
        case measure => simp [intOf]; omega
    · have HQ : Hid (R = (⟨#[]⟩, [])) := HNone.out (fun j hj => HR.out j (by omega))
      have r0 : wr.cell? ⟨w.heap.size, 0, none⟩ = some (.string ⟨#[]⟩) := ((bcell HB.out).1 _ _ z0).trans a0
      have r1 : wr.cell? ⟨w.heap.size, 1, none⟩ = some (.slice none 0 0) := ((bcell HB.out).1 _ _ z0).trans a1
      have g0 : wr.frozen? ⟨w.heap.size, 0, none⟩ = false := ((bcell HB.out).2 _ _ z0).trans f0
      have g1 : wr.frozen? ⟨w.heap.size, 1, none⟩ = false := ((bcell HB.out).2 _ _ z0).trans f1
      go_wp2
      exact bodyPost_ret (v := .agg #[.string ⟨#[]⟩, .slice none 0 0]) (by simp [results, Tryd.results98, go_sem, r0, r1]) rfl ⟨.slice none 0 0, by rw [HQ.out], by rw [HQ.out]; exact ⟨none, 0, rfl, fun h => absurd h (by simp)⟩, .inr rfl, by rw [HQ.out]; exact Nat.zero_le _, (BW.out.setCell (Nat.le_refl _) _).setCell (Nat.le_refl _) _⟩

set_option maxRecDepth 10000 in
set_option maxHeartbeats 4000000 in
theorem specRel5_any (v lv : Value) (n B B' : Nat) (f : Nat → ByteArray) (L : List SetL) (a b : ByteArray) (w : World) (hr : SliceS w B v n f) (l1 : n ≤ 1048576) (hf : ∀ i, i < n → 0 < (f i).size ∧ (f i).size ≤ 1000) (hs : SliceT w B' lv L) (hL : L.length ≤ 1048576) (hm : ∀ j, j < L.length → 0 < (atS L j).2.length ∧ (atS L j).2.length ≤ 1048576) :
    Calls Tryd.prog 102 #[v, lv, .string a, .string b] w fun e w' => e = .returned (.bool (relB n f L a b)) ∧ Below w.heap.size w w' := by
  have KA : Hid (∀ W, Below w.heap.size w W → Calls Tryd.prog 97 #[v, .string a] W fun e w' => e = .returned (.string (siteD n f a)) ∧ Below W.heap.size W w') := fun W hb => specSite5_any v n B f a W (hr.below hb) l1 hf
  have KB : Hid (∀ W, Below w.heap.size w W → Calls Tryd.prog 97 #[v, .string b] W fun e w' => e = .returned (.string (siteD n f b)) ∧ Below W.heap.size W w') := fun W hb => specSite5_any v n B f b W (hr.below hb) l1 hf
  have KO : Hid (∀ W, Below w.heap.size w W → Calls Tryd.prog 98 #[lv, .string (siteD n f a)] W fun e w' => ∃ u, e = .returned (.agg #[.string (ofS L (siteD n f a)).1, u]) ∧ SliceS w' 0 u (ofS L (siteD n f a)).2.length (atL (ofS L (siteD n f a)).2) ∧ (0 < (ofS L (siteD n f a)).2.length ∨ u = .slice none 0 0) ∧ (ofS L (siteD n f a)).2.length ≤ 1048576 ∧ Below W.heap.size W w') := fun W hb => specOf5_any lv L _ B' W (hs.below hb) hL hm
  have KH : Hid (∀ u W, SliceS W 0 u (ofS L (siteD n f a)).2.length (atL (ofS L (siteD n f a)).2) → (0 < (ofS L (siteD n f a)).2.length ∨ u = .slice none 0 0) → (ofS L (siteD n f a)).2.length ≤ 1048576 → Calls Tryd.prog 147 #[.agg #[.string (ofS L (siteD n f a)).1, u], .string (siteD n f b)] W fun e w' => e = .returned (.bool (hasB (ofS L (siteD n f a)) (siteD n f b))) ∧ Below W.heap.size W w') := fun u W s h1 h2 => specHas_any _ u 0 _ W s h1 h2
  have HE : Hid (relB n f L a b = (siteQ n f a && siteQ n f b && (((siteD n f a).toList == (siteD n f b).toList) || hasB (ofS L (siteD n f a)) (siteD n f b)))) := rfl
  have EA : (siteD n f a).toList.isEmpty = !(siteQ n f a) := siteD_empty n f a
  have EB : (siteD n f b).toList.isEmpty = !(siteQ n f b) := siteD_empty n f b
  obtain ⟨rp, rc, rfl, -⟩ := hr
  clear hf hs hm
  generalize relB n f L a b = R at *
  generalize siteQ n f a = qa at *
  generalize siteQ n f b = qb at *
  generalize siteD n f a = x at *
  generalize siteD n f b = y at *
  generalize hasB (ofS L x) y = hh at *
  generalize (ofS L x).1 = op at *
  generalize (ofS L x).2 = oM at *
  go_enter Tryd.func102, Tryd.ntmps102
  go_wp2_with fail
  refine (KA.out _ (Below.refl _ _)).mono ?_
  rintro e w1 ⟨rfl, hb1⟩
  have B1 : Hid (Below w.heap.size w w1) := hb1
  clear hb1
  go_wp2_with fail
  refine (KB.out _ B1.out).mono ?_
  rintro e w2 ⟨rfl, hb2⟩
  have B2 : Hid (Below w.heap.size w w2) := B1.out.trans (hb2.mono B1.out.size)
  clear hb2
  cases qa with
  | false =>
    have e1 : x.toList.isEmpty = true := EA
    have HQ : Hid (R = false) := by show _ = _; rw [HE.out]; rfl
    clear EA EB
    go_wp2
    go_ret
    exact ⟨ret_bool HQ.out.symm, B2.out⟩
  | true =>
    have e1 : x.toList.isEmpty = false := EA
    cases qb with
    | false =>
      have e2 : y.toList.isEmpty = true := EB
      have HQ : Hid (R = false) := by show _ = _; rw [HE.out]; rfl
      clear EA EB
      go_wp2
      go_ret
      exact ⟨ret_bool HQ.out.symm, B2.out⟩
    | true =>
      have e2 : y.toList.isEmpty = false := EB
      clear EA EB
      cases hxy : (x.toList == y.toList) with
      | true =>
        have HQ : Hid (R = true) := by show _ = _; rw [HE.out, hxy]; rfl
        go_wp2
        go_ret
        exact ⟨ret_bool HQ.out.symm, B2.out⟩
      | false =>
        have HQ : Hid (R = hh) := by show _ = _; rw [HE.out, hxy]; rfl
        go_wp2_with fail
        refine (KO.out _ B2.out).mono ?_
        rintro e w3 ⟨u, rfl, hs3, h1, h2, hb3⟩
        have B3 : Hid (Below w.heap.size w w3) := B2.out.trans (hb3.mono B2.out.size)
        have KH1 : Hid (Calls Tryd.prog 147 #[.agg #[.string op, u], .string y] w3 fun e w' => e = .returned (.bool hh) ∧ Below w3.heap.size w3 w') := KH.out u w3 hs3 h1 h2
        clear hb3 hs3 h1 h2
        go_wp2_with fail
        refine KH1.out.mono ?_
        rintro e w4 ⟨rfl, hb4⟩
        go_wp2
        go_ret
        exact ⟨ret_bool HQ.out.symm, B3.out.trans (hb4.mono B3.out.size)⟩

theorem setsB_mem {n : Nat} {f : Nat → ByteArray} {L : List SetL} (h : setsB n f L = true) : ∀ j, j < L.length → 0 < (atS L j).2.length ∧ (atS L j).2.length ≤ 1048576 := fun j hj => by
  have := setRB_parts (okS_set ((setsB_parts h).2.2 j hj))
  exact ⟨this.2.1, by omega⟩
set_option maxRecDepth 10000 in
set_option maxHeartbeats 4000000 in
theorem specRelated_any (v lv : Value) (n B B' : Nat) (f : Nat → ByteArray) (L : List SetL) (a b : ByteArray) (w : World) (hr : SliceS w B v n f) (l1 : n ≤ 1048576) (hf : ∀ i, i < n → (f i).size ≤ 1048576) (hs : SliceT w B' lv L) (hL : L.length ≤ 1048576) (hm : ∀ j, j < L.length → (atS L j).2.length ≤ 1048576) :
    Calls Tryd.prog 45 #[v, lv, .string a, .string b] w fun e w' => e = .returned (.bool (relatedB n f L a b)) ∧ Below w.heap.size w w' := by
  have KS : Hid (Calls Tryd.prog 30 #[v, lv] w fun e w' => e = .returned (.bool (setsB n f L)) ∧ Below w.heap.size w w') := specSetsRight_any v n B f lv L B' w hr l1 hf hs hL hm
  have KR : Hid (setsB n f L = true → ∀ W, Below w.heap.size w W → Calls Tryd.prog 102 #[v, lv, .string a, .string b] W fun e w' => e = .returned (.bool (relB n f L a b)) ∧ Below W.heap.size W w') := fun h W hb => specRel5_any v lv n B B' f L a b W (hr.below hb) l1 (specDomain_rules (setsB_parts h).1) (hs.below hb) hL (setsB_mem h)
  have HE : Hid (relatedB n f L a b = (setsB n f L && relB n f L a b)) := rfl
  have HLong : Hid (400 < L.length ∨ 8000 < a.size ∨ 8000 < b.size → relatedB n f L a b = false) := fun h => relatedB_long h
  obtain ⟨rp, rc, rfl, -⟩ := hr
  obtain ⟨uu, ⟨lp, lc, rfl, -⟩, -⟩ := hs
  clear hf hm
  generalize relatedB n f L a b = R at *
  generalize relB n f L a b = rr at *
  generalize setsB n f L = ss at *
  by_cases h1 : 400 < L.length
  · have HQ : Hid (R = false) := HLong.out (.inl h1)
    have q1 : decide ((L.length : Int) ≤ 400) = false := by rw [decide_eq_false_iff_not]; omega
    go_enter Tryd.func45, Tryd.ntmps45
    go_wp2
    go_ret
    exact ⟨ret_bool HQ.out.symm, Below.refl _ _⟩
  have q1 : decide ((L.length : Int) ≤ 400) = true := by rw [decide_eq_true_iff]; omega
  by_cases h2 : 8000 < a.size
  · have HQ : Hid (R = false) := HLong.out (.inr (.inl h2))
    have q2 : decide ((a.size : Int) ≤ 8000) = false := by rw [decide_eq_false_iff_not]; omega
    go_enter Tryd.func45, Tryd.ntmps45
    go_wp2
    go_ret
    exact ⟨ret_bool HQ.out.symm, Below.refl _ _⟩
  have q2 : decide ((a.size : Int) ≤ 8000) = true := by rw [decide_eq_true_iff]; omega
  by_cases h3 : 8000 < b.size
  · have HQ : Hid (R = false) := HLong.out (.inr (.inr h3))
    have q3 : decide ((b.size : Int) ≤ 8000) = false := by rw [decide_eq_false_iff_not]; omega
    go_enter Tryd.func45, Tryd.ntmps45
    go_wp2
    go_ret
    exact ⟨ret_bool HQ.out.symm, Below.refl _ _⟩
  have q3 : decide ((b.size : Int) ≤ 8000) = true := by rw [decide_eq_true_iff]; omega
  go_enter Tryd.func45, Tryd.ntmps45
  go_wp2_with fail
  refine KS.out.mono ?_
  rintro e w1 ⟨rfl, hb1⟩
  cases ss with
  | false =>
    have HQ : Hid (R = false) := by show _ = _; rw [HE.out]; rfl
    go_wp2
    go_ret
    exact ⟨ret_bool HQ.out.symm, hb1⟩
  | true =>
    have HQ : Hid (R = rr) := by show _ = _; rw [HE.out]; rfl
    have KR1 : Hid (∀ W, Below w.heap.size w W → Calls Tryd.prog 102 #[.slice rp n rc, .slice lp L.length lc, .string a, .string b] W fun e w' => e = .returned (.bool rr) ∧ Below W.heap.size W w') := KR.out rfl
    clear KR
    go_wp2_with fail
    refine (KR1.out _ hb1).mono ?_
    rintro e w2 ⟨rfl, hb2⟩
    go_wp2
    go_ret
    exact ⟨ret_bool HQ.out.symm, hb1.trans (hb2.mono hb1.size)⟩
end Go.Proofs.YtfoekelhcmlagaaDoor

/- The walk of the specification's l03Put. -/
namespace Go.Proofs.YtfoekelhcmlagaaDoor
open Go.RowKit

/-- a text put among others, in its place -/
def putL (L : List ByteArray) (t : ByteArray) : List ByteArray := (putT (L.map (·.data.toList)) t.data.toList).map (fun l => ⟨l.toArray⟩)
theorem data_back (L : List (List UInt8)) : (L.map (fun l => (⟨l.toArray⟩ : ByteArray))).map (·.data.toList) = L := by
  rw [List.map_map]
  conv => rhs; rw [← List.map_id L]
  apply List.map_congr_left
  intro l _
  simp
theorem back_data (L : List ByteArray) : (L.map (·.data.toList)).map (fun l => (⟨l.toArray⟩ : ByteArray)) = L := by
  apply datas_inj
  rw [data_back]
theorem putL_data (L : List ByteArray) (t : ByteArray) : (putL L t).map (·.data.toList) = putT (L.map (·.data.toList)) t.data.toList := data_back _
theorem less_data (a b : ByteArray) : Op.bytesLess a.toList b.toList = true ↔ a.data.toList < b.data.toList := by rw [less_iff, Lib.toList_data, Lib.toList_data]
theorem same_data (a b : ByteArray) : (a.toList == b.toList) = true ↔ a.data.toList = b.data.toList := by rw [beq_iff_eq, Lib.toList_data, Lib.toList_data]
theorem putL_at {L : List ByteArray} {t : ByteArray} {k : Nat} (hk : k ≤ L.length) (h1 : ∀ j, j < k → Op.bytesLess (atL L j).toList t.toList = true) (h2 : k < L.length → Op.bytesLess (atL L k).toList t.toList = false) :
    ((k < L.length ∧ ((atL L k).toList == t.toList) = true) → putL L t = L) ∧ (¬ (k < L.length ∧ ((atL L k).toList == t.toList) = true) → putL L t = L.take k ++ t :: L.drop k) := by
  have e := putT_at t.data.toList (L.map (·.data.toList)) k (by simpa using hk)
    (fun j hj hjk => by
      have := h1 j hjk
      rw [less_data] at this
      have hl : j < L.length := by simpa using hj
      have e2 : atL L j = L[j] := by simp [atL, hl]
      rw [e2] at this
      simpa using this)
    (fun h hlt => by
      have hl : k < L.length := by simpa using h
      have := h2 hl
      have e2 : atL L k = L[k] := by simp [atL, hl]
      rw [e2, (less_data _ _).2 (by simpa using hlt)] at this
      cases this)
  have ec : (∃ h : k < (L.map (·.data.toList)).length, (L.map (·.data.toList))[k] = t.data.toList) ↔ (k < L.length ∧ ((atL L k).toList == t.toList) = true) := by
    constructor
    · rintro ⟨h, e1⟩
      have hl : k < L.length := by simpa using h
      have e2 : atL L k = L[k] := by simp [atL, hl]
      exact ⟨hl, by rw [e2, same_data]; simpa using e1⟩
    · rintro ⟨hl, e1⟩
      have e2 : atL L k = L[k] := by simp [atL, hl]
      rw [e2, same_data] at e1
      exact ⟨by simpa using hl, by simpa using e1⟩
  constructor
  · intro hc
    rw [if_pos (ec.2 hc)] at e
    unfold putL
    rw [e]; exact back_data L
  · intro hc
    rw [if_neg (fun h => hc (ec.1 h))] at e
    apply datas_inj
    rw [putL_data, e]
    simp
theorem putL_len (L : List ByteArray) (t : ByteArray) : (putL L t).length ≤ L.length + 1 := by
  have : ∀ K : List (List UInt8), (putT K t.data.toList).length ≤ K.length + 1 := by
    intro K
    induction K with
    | nil => simp [putT]
    | cons x K ih =>
      rw [putT]
      split
      · simp; omega
      · split <;> simp
  have h := this (L.map (·.data.toList))
  unfold putL
  simpa using h

theorem own_base_put {w : World} {B B2 n : Nat} {e : TypeId} {v : Value} {xs : List Value} (h : w.ownsRow B2 e 1 v n xs) (hB : B ≤ B2) : w.ownsRow B e 1 v n xs := by
  obtain ⟨hl, h0 | ⟨g, cap, cur, rfl, hb, r⟩⟩ := h
  · exact ⟨hl, .inl h0⟩
  · exact ⟨hl, .inr ⟨g, cap, cur, rfl, by omega, r⟩⟩
theorem strCells_get {L : List ByteArray} {j : Nat} {u : Value} (h : (strCells L)[j]? = some u) : j < L.length ∧ u = .string (atL L j) := by
  have hj : j < L.length := by
    have := (List.getElem?_eq_some_iff.1 h).1
    simpa [strCells] using this
  refine ⟨hj, ?_⟩
  simp [strCells, hj] at h
  rw [← h]; simp [atL, hj]
theorem news_from {w W : World} {L : List ByteArray} {g k o : Nat} (hb : Below w.heap.size w W) (hg : g < w.heap.size) (hc : ∀ j, j < L.length → w.cell? ⟨g, j, none⟩ = some (.string (atL L j)) ∧ w.frozen? ⟨g, j, none⟩ = false) (ho : k < L.length → o = k) :
    ∀ j u, (strCells (L.drop k))[j]? = some u → W.cell? ((⟨g, o, none⟩ : Addr).add j) = some u := by
  intro j u hu
  obtain ⟨hj, rfl⟩ := strCells_get hu
  rw [List.length_drop] at hj
  rw [ho (by omega), Addr.add_lit, (bcell hb).1 _ _ hg, (hc (k + j) (by omega)).1]
  simp [atL]
theorem news_to {w W : World} {L : List ByteArray} {g k : Nat} (hb : Below w.heap.size w W) (hg : g < w.heap.size) (hc : ∀ j, j < L.length → w.cell? ⟨g, j, none⟩ = some (.string (atL L j)) ∧ w.frozen? ⟨g, j, none⟩ = false) :
    ∀ j u, (strCells (L.take k))[j]? = some u → W.cell? ((⟨g, 0, none⟩ : Addr).add j) = some u := by
  intro j u hu
  obtain ⟨hj, rfl⟩ := strCells_get hu
  rw [List.length_take] at hj
  rw [Addr.add_lit, Nat.zero_add, (bcell hb).1 _ _ hg, (hc j (by omega)).1]
  simp [atL, show j < k by omega]
theorem strCells_one {L : List ByteArray} : ∀ u ∈ strCells L, u.oneCell' = true := by
  intro u hu
  unfold strCells at hu
  rw [List.mem_map] at hu
  obtain ⟨x, _, rfl⟩ := hu
  rfl
set_option maxRecDepth 10000 in
set_option maxHeartbeats 4000000 in
theorem specPut_any (v : Value) (B : Nat) (L : List ByteArray) (t : ByteArray) (w : World) (hB : B ≤ w.heap.size) (ho : w.ownsRow B 9 1 v L.length (strCells L)) (hv : ¬ v = .slice none 0 0) (hn : L.length ≤ 1048576) :
    Calls Tryd.prog 84 #[v, .string t] w fun e w' => ∃ v', e = .returned v' ∧ w'.ownsRow B 9 1 v' (putL L t).length (strCells (putL L t)) ∧ (¬ v' = .slice none 0 0) ∧ Below w.heap.size w w' := by
  obtain ⟨i0, hi, hz0, hz1, hz2⟩ := info_parts infoStr
  have HO : Hid (w.ownsRow B 9 1 v L.length (strCells L)) := ho
  have HP : Hid (∀ k, k ≤ L.length → (∀ j, j < k → Op.bytesLess (atL L j).toList t.toList = true) → (k < L.length → Op.bytesLess (atL L k).toList t.toList = false) →
      ((k < L.length ∧ ((atL L k).toList == t.toList) = true) → putL L t = L) ∧ (¬ (k < L.length ∧ ((atL L k).toList == t.toList) = true) → putL L t = L.take k ++ t :: L.drop k)) := fun k a b c => putL_at a b c
  obtain ⟨hl0, ⟨rfl, h0⟩ | ⟨g, cap, cur, rfl, hbg, hh, hcap, -, -, htake⟩⟩ := ho
  · exact absurd rfl hv
  have hgw : g < w.heap.size := (Array.getElem?_eq_some_iff.mp hh).1
  have HG : Hid (∀ j, j < L.length → w.cell? ⟨g, j, none⟩ = some (.string (atL L j)) ∧ w.frozen? ⟨g, j, none⟩ = false) := fun j hj => by
    obtain ⟨p', c', e', hg'⟩ := slice_of_own HO.out
    obtain ⟨g', rfl, -, -, hc⟩ := hg' (by omega)
    obtain rfl : g = g' := by injection e' with a; injection a with a; injection a
    exact hc j hj
  clear hl0 htake hh hv
  generalize putL L t = R at *
  go_enter Tryd.func84, Tryd.ntmps84
  go_wp2
  go_loopw [5] (fun i wr => ∃ k : Nat, k ≤ L.length ∧ i = .int .i64 k ∧ wr = w ∧ Hid (∀ j, j < k → Op.bytesLess (atL L j).toList t.toList = true)) (fun i _ => L.length - (intOf i).toNat)
  case atStart => exact ⟨0, Nat.zero_le _, rfl, rfl, fun j hj => absurd hj (by omega)⟩
  case round =>
    obtain ⟨k, hk, rfl, rfl, HR⟩ := hrel
    have k0 : (0 : Int) ≤ k := by omega
    have kc : (k : Int) ≤ cap := by omega
    have kl : (k : Int) ≤ L.length := by omega
    have lc : (L.length : Int) ≤ cap := by omega
    by_cases hlt : k < L.length
    · have hck := (HG.out k hlt).1
      have k1 : (k : Int) < L.length := by omega
      have hkc : ¬ cap = k := by omega
      cases hl : Op.bytesLess (atL L k).toList t.toList with
      | true =>
        have HK : Hid (Op.bytesLess (atL L k).toList t.toList = true) := hl
        generalize hx : atL L k = x at *
        have HX : Hid (atL L k = x) := hx
        clear hx
        go_wp2
        go_roundw
        case rel =>
          refine ⟨k + 1, by omega, by go_num, trivial, ?_⟩
          intro j hj
          by_cases e : j = k
          · subst e; rw [HX.out]; exact HK.out
          · exact HR.out j (by omega)
        case measure => simp [intOf]; omega
      | false =>
        have HP2 := HP.out k hk HR.out (fun _ => hl)
        cases he : ((atL L k).toList == t.toList) with
        | true =>
          have HQ : Hid (R = L) := HP2.1 ⟨hlt, he⟩
          clear HP2
          generalize atL L k = x at *
          go_wp2
          go_ret
          exact ⟨_, rfl, by rw [HQ.out]; exact HO.out, by simp, Below.refl _ _⟩
        | false =>
          have HQ : Hid (R = L.take k ++ t :: L.drop k) := HP2.2 (by rw [he]; rintro ⟨_, h⟩; cases h)
          have hb0 : Below wr.heap.size wr (wr.alloc (.cells #[] 9)) := (Below.refl _ _).alloc (Nat.le_refl _) _
          clear HP2
          generalize atL L k = x at *
          go_wp2_with (at_builtin; go_must (refine wpList_append_own _ rfl _ _ 23 rfl wr.heap.size 9 i0 (.string ⟨#[]⟩) 1 16 Tryd.underlying23 hi hz0 hz1 hz2 rfl (by decide) _ _ _ rfl (World.ownsRow_made wr #[] 0 (Nat.le_refl _) (Nat.zero_le _) rfl) ⟨g, 0, none⟩ k _ (strCells (L.take k)) rfl (by simp [strCells]; omega) (news_to hb0 hgw HG.out) strCells_one (by unfold maxLen; omega) (by omega) (by simp) ?_))
          intro v1 w1 ho1 hg1 hn1
          have hb1 : Below wr.heap.size wr w1 := hb0.grown hg1 (by simp) (fun j hj => by simp [Value.ownBlock] at hj; omega)
          have B1 : Hid (Below wr.heap.size wr w1) := hb1
          have O1 : Hid (w1.ownsRow wr.heap.size 9 1 v1 k (strCells (L.take k))) := by show World.ownsRow _ _ _ _ _ _ _; simpa using ho1
          have N1 : Hid (¬ v1 = .slice none 0 0) := by show ¬ _; simpa using hn1
          have hz1' := hb1.size
          clear hb1 ho1 hg1 hn1 hb0
          go_wp2_with (at_builtin; go_must (refine wpList_append_own _ rfl _ _ 23 rfl wr.heap.size 9 i0 (.string ⟨#[]⟩) 1 16 Tryd.underlying23 hi hz0 hz1 hz2 rfl (by decide) _ _ _ rfl (O1.out.alloc _) ⟨w1.heap.size, 0, none⟩ 1 1 [.string t] rfl rfl (cell_one_new _ _ _) (by intro u hu; simp at hu; subst hu; rfl) (by unfold maxLen; omega) (by omega) (by simp; omega) ?_))
          intro v2 w2 ho2 hg2 hn2
          have hb2 : Below wr.heap.size wr w2 := (B1.out.alloc hz1' _).grown hg2 (by simp; omega) (fun j hj => (O1.out.lt j hj).1)
          have B2 : Hid (Below wr.heap.size wr w2) := hb2
          have O2 : Hid (w2.ownsRow wr.heap.size 9 1 v2 (k + 1) (strCells (L.take k) ++ [.string t])) := ho2
          have N2 : Hid (¬ v2 = .slice none 0 0) := hn2
          have hz2' := hb2.size
          clear hb2 ho2 hg2 hn2 O1 B1 N1
          go_wp2_with (at_builtin; go_must (refine wpList_append_own _ rfl _ _ 23 rfl wr.heap.size 9 i0 (.string ⟨#[]⟩) 1 16 Tryd.underlying23 hi hz0 hz1 hz2 rfl (by decide) _ _ _ rfl O2.out ⟨g, k, none⟩ (L.length - k) _ (strCells (L.drop k)) rfl (by simp [strCells]) (news_from B2.out hgw HG.out (by omega)) strCells_one (by unfold maxLen; omega) (by omega) hz2' ?_))
          intro v3 w3 ho3 hg3 hn3
          have hb3 : Below wr.heap.size wr w3 := B2.out.grown hg3 hz2' (fun j hj => (O2.out.lt j hj).1)
          have O3 : Hid (w3.ownsRow B 9 1 v3 R.length (strCells R)) := by
            show World.ownsRow _ _ _ _ _ _ _
            have e1 : strCells R = strCells (L.take k) ++ .string t :: strCells (L.drop k) := by rw [HQ.out]; simp [strCells]
            have e2 : R.length = k + 1 + (L.length - k) := by rw [HQ.out]; simp; omega
            rw [e1, e2]; exact own_base_put ho3 hB
          have N3 : Hid (¬ v3 = .slice none 0 0) := fun h => N2.out (hn3.1 h).1
          have B3 : Hid (Below wr.heap.size wr w3) := hb3
          clear hb3 ho3 hg3 hn3 O2 B2 N2
          go_wp2
          go_ret
          exact ⟨_, rfl, O3.out, N3.out, B3.out⟩
    · have HQ : Hid (R = L.take k ++ t :: L.drop k) := (HP.out k hk HR.out (fun h => absurd h hlt)).2 (fun h => hlt h.1)
      have hb0 : Below wr.heap.size wr (wr.alloc (.cells #[] 9)) := (Below.refl _ _).alloc (Nat.le_refl _) _
      have k1 : ¬ (k : Int) < L.length := by omega
      by_cases hkc : cap = k
      · go_wp2_with (at_builtin; go_must (refine wpList_append_own _ rfl _ _ 23 rfl wr.heap.size 9 i0 (.string ⟨#[]⟩) 1 16 Tryd.underlying23 hi hz0 hz1 hz2 rfl (by decide) _ _ _ rfl (World.ownsRow_made wr #[] 0 (Nat.le_refl _) (Nat.zero_le _) rfl) ⟨g, 0, none⟩ k _ (strCells (L.take k)) rfl (by simp [strCells]; omega) (news_to hb0 hgw HG.out) strCells_one (by unfold maxLen; omega) (by omega) (by simp) ?_))
        intro v1 w1 ho1 hg1 hn1
        have hb1 : Below wr.heap.size wr w1 := hb0.grown hg1 (by simp) (fun j hj => by simp [Value.ownBlock] at hj; omega)
        have B1 : Hid (Below wr.heap.size wr w1) := hb1
        have O1 : Hid (w1.ownsRow wr.heap.size 9 1 v1 k (strCells (L.take k))) := by show World.ownsRow _ _ _ _ _ _ _; simpa using ho1
        have N1 : Hid (¬ v1 = .slice none 0 0) := by show ¬ _; simpa using hn1
        have hz1' := hb1.size
        clear hb1 ho1 hg1 hn1 hb0
        go_wp2_with (at_builtin; go_must (refine wpList_append_own _ rfl _ _ 23 rfl wr.heap.size 9 i0 (.string ⟨#[]⟩) 1 16 Tryd.underlying23 hi hz0 hz1 hz2 rfl (by decide) _ _ _ rfl (O1.out.alloc _) ⟨w1.heap.size, 0, none⟩ 1 1 [.string t] rfl rfl (cell_one_new _ _ _) (by intro u hu; simp at hu; subst hu; rfl) (by unfold maxLen; omega) (by omega) (by simp; omega) ?_))
        intro v2 w2 ho2 hg2 hn2
        have hb2 : Below wr.heap.size wr w2 := (B1.out.alloc hz1' _).grown hg2 (by simp; omega) (fun j hj => (O1.out.lt j hj).1)
        have B2 : Hid (Below wr.heap.size wr w2) := hb2
        have O2 : Hid (w2.ownsRow wr.heap.size 9 1 v2 (k + 1) (strCells (L.take k) ++ [.string t])) := ho2
        have N2 : Hid (¬ v2 = .slice none 0 0) := hn2
        have hz2' := hb2.size
        clear hb2 ho2 hg2 hn2 O1 B1 N1
        go_wp2_with (at_builtin; go_must (refine wpList_append_own _ rfl _ _ 23 rfl wr.heap.size 9 i0 (.string ⟨#[]⟩) 1 16 Tryd.underlying23 hi hz0 hz1 hz2 rfl (by decide) _ _ _ rfl O2.out ⟨g, 0, none⟩ (L.length - k) _ (strCells (L.drop k)) rfl (by simp [strCells]) (news_from B2.out hgw HG.out (by omega)) strCells_one (by unfold maxLen; omega) (by omega) hz2' ?_))
        intro v3 w3 ho3 hg3 hn3
        have hb3 : Below wr.heap.size wr w3 := B2.out.grown hg3 hz2' (fun j hj => (O2.out.lt j hj).1)
        have O3 : Hid (w3.ownsRow B 9 1 v3 R.length (strCells R)) := by
          show World.ownsRow _ _ _ _ _ _ _
          have e1 : strCells R = strCells (L.take k) ++ .string t :: strCells (L.drop k) := by rw [HQ.out]; simp [strCells]
          have e2 : R.length = k + 1 + (L.length - k) := by rw [HQ.out]; simp; omega
          rw [e1, e2]; exact own_base_put ho3 hB
        have N3 : Hid (¬ v3 = .slice none 0 0) := fun h => N2.out (hn3.1 h).1
        have B3 : Hid (Below wr.heap.size wr w3) := hb3
        clear hb3 ho3 hg3 hn3 O2 B2 N2
        go_wp2
        go_ret
        exact ⟨_, rfl, O3.out, N3.out, B3.out⟩
      · go_wp2_with (at_builtin; go_must (refine wpList_append_own _ rfl _ _ 23 rfl wr.heap.size 9 i0 (.string ⟨#[]⟩) 1 16 Tryd.underlying23 hi hz0 hz1 hz2 rfl (by decide) _ _ _ rfl (World.ownsRow_made wr #[] 0 (Nat.le_refl _) (Nat.zero_le _) rfl) ⟨g, 0, none⟩ k _ (strCells (L.take k)) rfl (by simp [strCells]; omega) (news_to hb0 hgw HG.out) strCells_one (by unfold maxLen; omega) (by omega) (by simp) ?_))
        intro v1 w1 ho1 hg1 hn1
        have hb1 : Below wr.heap.size wr w1 := hb0.grown hg1 (by simp) (fun j hj => by simp [Value.ownBlock] at hj; omega)
        have B1 : Hid (Below wr.heap.size wr w1) := hb1
        have O1 : Hid (w1.ownsRow wr.heap.size 9 1 v1 k (strCells (L.take k))) := by show World.ownsRow _ _ _ _ _ _ _; simpa using ho1
        have N1 : Hid (¬ v1 = .slice none 0 0) := by show ¬ _; simpa using hn1
        have hz1' := hb1.size
        clear hb1 ho1 hg1 hn1 hb0
        go_wp2_with (at_builtin; go_must (refine wpList_append_own _ rfl _ _ 23 rfl wr.heap.size 9 i0 (.string ⟨#[]⟩) 1 16 Tryd.underlying23 hi hz0 hz1 hz2 rfl (by decide) _ _ _ rfl (O1.out.alloc _) ⟨w1.heap.size, 0, none⟩ 1 1 [.string t] rfl rfl (cell_one_new _ _ _) (by intro u hu; simp at hu; subst hu; rfl) (by unfold maxLen; omega) (by omega) (by simp; omega) ?_))
        intro v2 w2 ho2 hg2 hn2
        have hb2 : Below wr.heap.size wr w2 := (B1.out.alloc hz1' _).grown hg2 (by simp; omega) (fun j hj => (O1.out.lt j hj).1)
        have B2 : Hid (Below wr.heap.size wr w2) := hb2
        have O2 : Hid (w2.ownsRow wr.heap.size 9 1 v2 (k + 1) (strCells (L.take k) ++ [.string t])) := ho2
        have N2 : Hid (¬ v2 = .slice none 0 0) := hn2
        have hz2' := hb2.size
        clear hb2 ho2 hg2 hn2 O1 B1 N1
        go_wp2_with (at_builtin; go_must (refine wpList_append_own _ rfl _ _ 23 rfl wr.heap.size 9 i0 (.string ⟨#[]⟩) 1 16 Tryd.underlying23 hi hz0 hz1 hz2 rfl (by decide) _ _ _ rfl O2.out ⟨g, k, none⟩ (L.length - k) _ (strCells (L.drop k)) rfl (by simp [strCells]) (news_from B2.out hgw HG.out (by omega)) strCells_one (by unfold maxLen; omega) (by omega) hz2' ?_))
        intro v3 w3 ho3 hg3 hn3
        have hb3 : Below wr.heap.size wr w3 := B2.out.grown hg3 hz2' (fun j hj => (O2.out.lt j hj).1)
        have O3 : Hid (w3.ownsRow B 9 1 v3 R.length (strCells R)) := by
          show World.ownsRow _ _ _ _ _ _ _
          have e1 : strCells R = strCells (L.take k) ++ .string t :: strCells (L.drop k) := by rw [HQ.out]; simp [strCells]
          have e2 : R.length = k + 1 + (L.length - k) := by rw [HQ.out]; simp; omega
          rw [e1, e2]; exact own_base_put ho3 hB
        have N3 : Hid (¬ v3 = .slice none 0 0) := fun h => N2.out (hn3.1 h).1
        have B3 : Hid (Below wr.heap.size wr w3) := hb3
        clear hb3 ho3 hg3 hn3 O2 B2 N2
        go_wp2
        go_ret
        exact ⟨_, rfl, O3.out, N3.out, B3.out⟩
end Go.Proofs.YtfoekelhcmlagaaDoor

/- The walk of the specification's SetOf. -/
namespace Go.Proofs.YtfoekelhcmlagaaDoor
open Go.RowKit Go.Maps

theorem box_put {W : World} {bx br : Nat} {o0 V p1 q0 q1 : Value} (hne : ¬ bx = br) (x0 : W.cell? ⟨bx, 0, none⟩ = some o0) (x1 : W.cell? ⟨bx, 1, none⟩ = some p1) (s0 : W.cell? ⟨br, 0, none⟩ = some q0) (s1 : W.cell? ⟨br, 1, none⟩ = some q1) (t0 : W.frozen? ⟨br, 0, none⟩ = false) (t1 : W.frozen? ⟨br, 1, none⟩ = false) :
    (W.setCell ⟨bx, 1, none⟩ V).cell? ⟨bx, 0, none⟩ = some o0 ∧ (W.setCell ⟨bx, 1, none⟩ V).cell? ⟨bx, 1, none⟩ = some V ∧ (W.setCell ⟨bx, 1, none⟩ V).cell? ⟨br, 0, none⟩ = some q0 ∧ (W.setCell ⟨bx, 1, none⟩ V).cell? ⟨br, 1, none⟩ = some q1 ∧ (W.setCell ⟨bx, 1, none⟩ V).frozen? ⟨br, 0, none⟩ = false ∧ (W.setCell ⟨bx, 1, none⟩ V).frozen? ⟨br, 1, none⟩ = false := by
  refine ⟨?_, World.cell?_setCell_same _ _ _ x1, ?_, ?_, ?_, ?_⟩
  · rw [World.cell?_setCell_other _ _ _ _ (by intro h; injection h with _ h; omega)]; exact x0
  · rw [World.cell?_setCell_other _ _ _ _ (by intro h; injection h with h; omega)]; exact s0
  · rw [World.cell?_setCell_other _ _ _ _ (by intro h; injection h with h; omega)]; exact s1
  · rw [World.frozen?_setCell]; exact t0
  · rw [World.frozen?_setCell]; exact t1
set_option maxRecDepth 10000 in
set_option maxHeartbeats 4000000 in
theorem specSetOf_any (v lv : Value) (n B B' : Nat) (f : Nat → ByteArray) (L : List SetL) (s : ByteArray) (w : World) (hr : SliceS w B v n f) (l1 : n ≤ 1048576) (hf : ∀ i, i < n → (f i).size ≤ 1048576) (hs : SliceT w B' lv L) (hL : L.length ≤ 1048576) (hm : ∀ j, j < L.length → (atS L j).2.length ≤ 1048576) :
    Calls Tryd.prog 38 #[v, lv, .string s] w fun e w' => ∃ u, e = .returned (.agg #[.string (setOfL n f L s).1, u]) ∧ SliceS w' w.heap.size u (setOfL n f L s).2.length (atL (setOfL n f L s).2) ∧ Below w.heap.size w w' := by
  obtain ⟨i0, hi, hz0, hz1, hz2⟩ := info_parts infoStr
  have KS : Hid (∀ W, Below w.heap.size w W → Calls Tryd.prog 30 #[v, lv] W fun e w' => e = .returned (.bool (setsB n f L)) ∧ Below W.heap.size W w') := fun W hb => specSetsRight_any v n B f lv L B' W (hr.below hb) l1 hf (hs.below hb) hL hm
  have KD : Hid (setsB n f L = true → ∀ W, Below w.heap.size w W → Calls Tryd.prog 97 #[v, .string s] W fun e w' => e = .returned (.string (siteD n f s)) ∧ Below W.heap.size W w') := fun h W hb => specSite5_any v n B f s W (hr.below hb) l1 (specDomain_rules (setsB_parts h).1)
  have KO : Hid (setsB n f L = true → ∀ W, Below w.heap.size w W → Calls Tryd.prog 98 #[lv, .string (siteD n f s)] W fun e w' => ∃ u, e = .returned (.agg #[.string (ofS L (siteD n f s)).1, u]) ∧ SliceS w' 0 u (ofS L (siteD n f s)).2.length (atL (ofS L (siteD n f s)).2) ∧ (0 < (ofS L (siteD n f s)).2.length ∨ u = .slice none 0 0) ∧ (ofS L (siteD n f s)).2.length ≤ 1048576 ∧ Below W.heap.size W w') := fun h W hb => specOf5_any lv L _ B' W (hs.below hb) hL (setsB_mem h)
  have HLong : Hid (400 < L.length ∨ 8000 < s.size → setOfL n f L s = (⟨#[]⟩, [])) := fun h => setOfL_long h
  have HNo : Hid (setsB n f L = false → setOfL n f L s = (⟨#[]⟩, [])) := fun h => setOfL_no h
  have HOff : Hid (siteQ n f s = false → setOfL n f L s = (⟨#[]⟩, [])) := fun h => setOfL_off h
  have HYes : Hid (setsB n f L = true → siteQ n f s = true → setOfL n f L s = ofS L (siteD n f s)) := fun h h2 => setOfL_yes h h2
  have EA : (siteD n f s).toList.isEmpty = !(siteQ n f s) := siteD_empty n f s
  have EA1 : Hid ((siteD n f s).toList.isEmpty = !(siteQ n f s)) := EA
  clear EA
  obtain ⟨rp, rc, rfl, -⟩ := hr
  obtain ⟨uu, ⟨lp, lc, rfl, -⟩, -⟩ := hs
  clear hf hm
  generalize setOfL n f L s = R at *
  generalize siteQ n f s = qa at *
  generalize siteD n f s = x at *
  generalize ofS L x = O at *
  generalize setsB n f L = ss at *
  obtain ⟨W0, hW⟩ : ∃ W0, W0 = w.alloc (.cells #[.string ⟨#[]⟩, .slice none 0 0] 47) := ⟨_, rfl⟩
  have hW0 : Hid (W0 = w.alloc (.cells #[.string ⟨#[]⟩, .slice none 0 0] 47)) := hW
  have HB0 : Hid (Below w.heap.size w W0) := by show Below _ _ _; rw [hW]; exact (Below.refl _ _).alloc (Nat.le_refl _) _
  have z0 : w.heap.size < W0.heap.size := by rw [hW]; simp
  have a0 : W0.cell? ⟨w.heap.size, 0, none⟩ = some (.string ⟨#[]⟩) := by rw [hW]; simp
  have a1 : W0.cell? ⟨w.heap.size, 1, none⟩ = some (.slice none 0 0) := by rw [hW]; simp
  have f0 : W0.frozen? ⟨w.heap.size, 0, none⟩ = false := by rw [hW]; simp
  have f1 : W0.frozen? ⟨w.heap.size, 1, none⟩ = false := by rw [hW]; simp
  clear hW
  have KN : Hid (∀ wr : World, Below w.heap.size w wr → R = (⟨#[]⟩, []) → ∃ u, Ending.returned (.agg #[.string ⟨#[]⟩, .slice none 0 0]) = .returned (.agg #[.string R.1, u]) ∧ SliceS ((wr.setCell ⟨w.heap.size, 0, none⟩ (.string ⟨#[]⟩)).setCell ⟨w.heap.size, 1, none⟩ (.slice none 0 0)) w.heap.size u R.2.length (atL R.2) ∧ Below w.heap.size w ((wr.setCell ⟨w.heap.size, 0, none⟩ (.string ⟨#[]⟩)).setCell ⟨w.heap.size, 1, none⟩ (.slice none 0 0))) := fun wr hb e => ⟨.slice none 0 0, by rw [e], by rw [e]; exact ⟨none, 0, rfl, fun h => absurd h (by simp)⟩, (hb.setCell (Nat.le_refl _) _).setCell (Nat.le_refl _) _⟩
  by_cases h1 : 400 < L.length
  · have q1 : decide ((400 : Int) < (L.length : Int)) = true := by rw [decide_eq_true_iff]; omega
    have HQ : Hid (R = (⟨#[]⟩, [])) := HLong.out (.inl h1)
    go_enter Tryd.func38, Tryd.ntmps38
    go_upto_region 1 with fail
    rw [← hW0.out]
    clear hW0
    go_wp2
    exact bodyPost_ret (v := .agg #[.string ⟨#[]⟩, .slice none 0 0]) (by simp [results, Tryd.results38, go_sem, a0, a1]) rfl (KN.out _ HB0.out HQ.out)
  have q1 : decide ((400 : Int) < (L.length : Int)) = false := by rw [decide_eq_false_iff_not]; omega
  by_cases h2 : 8000 < s.size
  · have q2 : decide ((8000 : Int) < (s.size : Int)) = true := by rw [decide_eq_true_iff]; omega
    have HQ : Hid (R = (⟨#[]⟩, [])) := HLong.out (.inr h2)
    go_enter Tryd.func38, Tryd.ntmps38
    go_upto_region 1 with fail
    rw [← hW0.out]
    clear hW0
    go_wp2
    exact bodyPost_ret (v := .agg #[.string ⟨#[]⟩, .slice none 0 0]) (by simp [results, Tryd.results38, go_sem, a0, a1]) rfl (KN.out _ HB0.out HQ.out)
  have q2 : decide ((8000 : Int) < (s.size : Int)) = false := by rw [decide_eq_false_iff_not]; omega
  go_enter Tryd.func38, Tryd.ntmps38
  go_upto_region 1 with fail
  rw [← hW0.out]
  clear hW0
  go_wp2_with fail
  refine (KS.out _ HB0.out).mono ?_
  rintro e w1 ⟨rfl, hb1⟩
  have B1 : Hid (Below w.heap.size w w1) := HB0.out.trans (hb1.mono HB0.out.size)
  have A1 : Hid (Below W0.heap.size W0 w1) := hb1
  clear hb1 KS HLong
  cases ss with
  | false =>
    have HQ : Hid (R = (⟨#[]⟩, [])) := HNo.out rfl
    have r0 : w1.cell? ⟨w.heap.size, 0, none⟩ = some (.string ⟨#[]⟩) := ((bcell A1.out).1 _ _ z0).trans a0
    have r1 : w1.cell? ⟨w.heap.size, 1, none⟩ = some (.slice none 0 0) := ((bcell A1.out).1 _ _ z0).trans a1
    have g0 : w1.frozen? ⟨w.heap.size, 0, none⟩ = false := ((bcell A1.out).2 _ _ z0).trans f0
    have g1 : w1.frozen? ⟨w.heap.size, 1, none⟩ = false := ((bcell A1.out).2 _ _ z0).trans f1
    clear KD KO HYes
    go_wp2
    exact bodyPost_ret (v := .agg #[.string ⟨#[]⟩, .slice none 0 0]) (by simp [results, Tryd.results38, go_sem, r0, r1]) rfl (KN.out _ B1.out HQ.out)
  | true =>
    have KD1 : Hid (∀ W, Below w.heap.size w W → Calls Tryd.prog 97 #[.slice rp n rc, .string s] W fun e w' => e = .returned (.string x) ∧ Below W.heap.size W w') := KD.out rfl
    have KO1 : Hid (∀ W, Below w.heap.size w W → Calls Tryd.prog 98 #[.slice lp L.length lc, .string x] W fun e w' => ∃ u, e = .returned (.agg #[.string O.1, u]) ∧ SliceS w' 0 u O.2.length (atL O.2) ∧ (0 < O.2.length ∨ u = .slice none 0 0) ∧ O.2.length ≤ 1048576 ∧ Below W.heap.size W w') := KO.out rfl
    have HYes1 : Hid (qa = true → R = O) := HYes.out rfl
    clear KD KO HYes HNo
    go_wp2_with fail
    refine (KD1.out _ B1.out).mono ?_
    rintro e w2 ⟨rfl, hb2⟩
    have B2 : Hid (Below w.heap.size w w2) := B1.out.trans (hb2.mono B1.out.size)
    have A2 : Hid (Below W0.heap.size W0 w2) := A1.out.trans (hb2.mono A1.out.size)
    clear hb2 KD1
    cases qa with
    | false =>
      have HQ : Hid (R = (⟨#[]⟩, [])) := HOff.out rfl
      have e1 : x.toList.isEmpty = true := EA1.out
      have r0 : w2.cell? ⟨w.heap.size, 0, none⟩ = some (.string ⟨#[]⟩) := ((bcell A2.out).1 _ _ z0).trans a0
      have r1 : w2.cell? ⟨w.heap.size, 1, none⟩ = some (.slice none 0 0) := ((bcell A2.out).1 _ _ z0).trans a1
      have g0 : w2.frozen? ⟨w.heap.size, 0, none⟩ = false := ((bcell A2.out).2 _ _ z0).trans f0
      have g1 : w2.frozen? ⟨w.heap.size, 1, none⟩ = false := ((bcell A2.out).2 _ _ z0).trans f1
      clear KO1 HYes1 HOff
      go_wp2
      exact bodyPost_ret (v := .agg #[.string ⟨#[]⟩, .slice none 0 0]) (by simp [results, Tryd.results38, go_sem, r0, r1]) rfl (KN.out _ B2.out HQ.out)
    | true =>
      have HQ : Hid (R = O) := HYes1.out rfl
      have e1 : x.toList.isEmpty = false := EA1.out
      clear HYes1 HOff KN
      obtain ⟨op, oM⟩ := O
      go_wp2_with fail
      refine (KO1.out _ B2.out).mono ?_
      rintro e w3 ⟨u, rfl, hs3, h3, h4, hb3⟩
      have B3 : Hid (Below w.heap.size w w3) := B2.out.trans (hb3.mono B2.out.size)
      have A3 : Hid (Below W0.heap.size W0 w3) := A2.out.trans (hb3.mono A2.out.size)
      have r0 : w3.cell? ⟨w.heap.size, 0, none⟩ = some (.string ⟨#[]⟩) := ((bcell A3.out).1 _ _ z0).trans a0
      have r1 : w3.cell? ⟨w.heap.size, 1, none⟩ = some (.slice none 0 0) := ((bcell A3.out).1 _ _ z0).trans a1
      have g0 : w3.frozen? ⟨w.heap.size, 0, none⟩ = false := ((bcell A3.out).2 _ _ z0).trans f0
      have g1 : w3.frozen? ⟨w.heap.size, 1, none⟩ = false := ((bcell A3.out).2 _ _ z0).trans f1
      have z3 : w.heap.size < w3.heap.size := Nat.lt_of_lt_of_le z0 A3.out.size
      clear hb3 KO1 B1 B2 A1 A2 A3 HB0 a0 a1 f0 f1 z0
      cases oM with
      | nil =>
        obtain rfl : u = .slice none 0 0 := h3.resolve_left (by simp)
        obtain ⟨W4, hW⟩ : ∃ W4, W4 = w3.alloc (.cells #[.string op, .slice none 0 0] 47) := ⟨_, rfl⟩
        have hW4 : Hid (W4 = w3.alloc (.cells #[.string op, .slice none 0 0] 47)) := hW
        have B4 : Hid (Below w.heap.size w W4) := by show Below _ _ _; rw [hW]; exact B3.out.alloc B3.out.size _
        have b34 : Below w3.heap.size w3 W4 := by rw [hW]; exact (Below.refl _ _).alloc (Nat.le_refl _) _
        have x0 : W4.cell? ⟨w3.heap.size, 0, none⟩ = some (.string op) := by rw [hW]; simp
        have x1 : W4.cell? ⟨w3.heap.size, 1, none⟩ = some (.slice none 0 0) := by rw [hW]; simp
        have y0 : W4.frozen? ⟨w3.heap.size, 0, none⟩ = false := by rw [hW]; simp
        have y1 : W4.frozen? ⟨w3.heap.size, 1, none⟩ = false := by rw [hW]; simp
        have z4 : w3.heap.size < W4.heap.size := by rw [hW]; simp
        have s0 : W4.cell? ⟨w.heap.size, 0, none⟩ = some (.string ⟨#[]⟩) := ((bcell b34).1 _ _ z3).trans r0
        have s1 : W4.cell? ⟨w.heap.size, 1, none⟩ = some (.slice none 0 0) := ((bcell b34).1 _ _ z3).trans r1
        have t0 : W4.frozen? ⟨w.heap.size, 0, none⟩ = false := ((bcell b34).2 _ _ z3).trans g0
        have t1 : W4.frozen? ⟨w.heap.size, 1, none⟩ = false := ((bcell b34).2 _ _ z3).trans g1
        have hne : ¬ w3.heap.size = w.heap.size := by omega
        have hne2 : ¬ w.heap.size = w3.heap.size := by omega
        clear hs3 h3 h4 b34 hW r0 r1 g0 g1
        obtain ⟨W6, hW⟩ : ∃ W6, W6 = (W4.setCell ⟨w3.heap.size, 1, none⟩ (.slice (some ⟨W4.heap.size, 0, none⟩) 0 0)).alloc (.cells #[] 9) := ⟨_, rfl⟩
        have hW6 : Hid (W6 = (W4.setCell ⟨w3.heap.size, 1, none⟩ (.slice (some ⟨W4.heap.size, 0, none⟩) 0 0)).alloc (.cells #[] 9)) := hW
        obtain ⟨k0, k1, k2, k3, k4, k5⟩ := box_put (V := .slice (some ⟨W4.heap.size, 0, none⟩) 0 0) hne x0 x1 s0 s1 t0 t1
        have BX : Below w.heap.size w (W4.setCell ⟨w3.heap.size, 1, none⟩ (.slice (some ⟨W4.heap.size, 0, none⟩) 0 0)) := B4.out.setCell (Nat.le_of_lt z3) _
        have hal : Below (W4.setCell ⟨w3.heap.size, 1, none⟩ (.slice (some ⟨W4.heap.size, 0, none⟩) 0 0)).heap.size (W4.setCell ⟨w3.heap.size, 1, none⟩ (.slice (some ⟨W4.heap.size, 0, none⟩) 0 0)) W6 := by rw [hW]; exact (Below.refl _ _).alloc (Nat.le_refl _) _
        have zx : w3.heap.size < (W4.setCell ⟨w3.heap.size, 1, none⟩ (.slice (some ⟨W4.heap.size, 0, none⟩) 0 0)).heap.size := by simpa [World.setCell] using z4
        have zr : w.heap.size < (W4.setCell ⟨w3.heap.size, 1, none⟩ (.slice (some ⟨W4.heap.size, 0, none⟩) 0 0)).heap.size := Nat.lt_trans z3 zx
        replace k0 := ((bcell hal).1 _ _ zx).trans k0
        replace k1 := ((bcell hal).1 _ _ zx).trans k1
        replace k2 := ((bcell hal).1 _ _ zr).trans k2
        replace k3 := ((bcell hal).1 _ _ zr).trans k3
        replace k4 := ((bcell hal).2 _ _ zr).trans k4
        replace k5 := ((bcell hal).2 _ _ zr).trans k5
        have B6 : Hid (Below w.heap.size w W6) := by show Below _ _ _; rw [hW]; exact BX.alloc BX.size _
        clear x0 y0 s0 s1 t0 t1 zx zr hal BX hW
        go_upto_region 7 with fail
        rw [← hW4.out]
        clear hW4
        generalize hbx : w3.heap.size = bx at *
        go_upto_region 8 with (at_builtin; go_must (refine wpList_append_own_none rfl _ _ 23 rfl W4.heap.size 9 i0 1 Tryd.underlying23 hi _ _ _ rfl (World.ownsRow_made W4 #[] 0 (Nat.le_refl _) (Nat.zero_le _) rfl) rfl ?_))
        rw [← hW6.out]
        clear hW6 x1 y1
        go_wp2
        exact bodyPost_ret (v := .agg #[.string op, .slice (some ⟨W4.heap.size, 0, none⟩) 0 0]) (by simp [results, Tryd.results38, go_sem, k2, k3]) rfl ⟨.slice (some ⟨W4.heap.size, 0, none⟩) 0 0, by rw [HQ.out], by rw [HQ.out]; exact ⟨_, _, rfl, fun h => absurd h (by simp)⟩, (B6.out.setCell (Nat.le_refl _) _).setCell (Nat.le_refl _) _⟩
      | cons m0 M1 =>
        generalize hoM : m0 :: M1 = oM at *
        have hpos : 0 < oM.length := by rw [← hoM]; simp
        have HQ2 : Hid (R = (op, oM)) := HQ
        clear hoM h3 HQ
        obtain ⟨p, c, rfl, hg⟩ := hs3
        obtain ⟨g, rfl, -, hgw, hc⟩ := hg hpos
        clear hg
        obtain ⟨W4, hW⟩ : ∃ W4, W4 = w3.alloc (.cells #[.string op, .slice (some ⟨g, 0, none⟩) oM.length c] 47) := ⟨_, rfl⟩
        have hW4 : Hid (W4 = w3.alloc (.cells #[.string op, .slice (some ⟨g, 0, none⟩) oM.length c] 47)) := hW
        have B4 : Hid (Below w.heap.size w W4) := by show Below _ _ _; rw [hW]; exact B3.out.alloc B3.out.size _
        have b34 : Below w3.heap.size w3 W4 := by rw [hW]; exact (Below.refl _ _).alloc (Nat.le_refl _) _
        have x0 : W4.cell? ⟨w3.heap.size, 0, none⟩ = some (.string op) := by rw [hW]; simp
        have x1 : W4.cell? ⟨w3.heap.size, 1, none⟩ = some (.slice (some ⟨g, 0, none⟩) oM.length c) := by rw [hW]; simp
        have y1 : W4.frozen? ⟨w3.heap.size, 1, none⟩ = false := by rw [hW]; simp
        have z4 : w3.heap.size < W4.heap.size := by rw [hW]; simp
        have s0 : W4.cell? ⟨w.heap.size, 0, none⟩ = some (.string ⟨#[]⟩) := ((bcell b34).1 _ _ z3).trans r0
        have s1 : W4.cell? ⟨w.heap.size, 1, none⟩ = some (.slice none 0 0) := ((bcell b34).1 _ _ z3).trans r1
        have t0 : W4.frozen? ⟨w.heap.size, 0, none⟩ = false := ((bcell b34).2 _ _ z3).trans g0
        have t1 : W4.frozen? ⟨w.heap.size, 1, none⟩ = false := ((bcell b34).2 _ _ z3).trans g1
        have hne : ¬ w3.heap.size = w.heap.size := by omega
        have hg4 : g < W4.heap.size := by omega
        have HG : Hid (∀ j, j < oM.length → W4.cell? ⟨g, j, none⟩ = some (.string (atL oM j)) ∧ W4.frozen? ⟨g, j, none⟩ = false) := fun j hj => ⟨((bcell b34).1 _ _ hgw).trans (hc j hj).1, ((bcell b34).2 _ _ hgw).trans (hc j hj).2⟩
        have hb0 : Below W4.heap.size W4 (W4.alloc (.cells #[] 9)) := (Below.refl _ _).alloc (Nat.le_refl _) _
        have HB5 : Hid (Below W4.heap.size W4 (W4.alloc (.cells #[] 9))) := hb0
        have hnews : ∀ j u, (strCells oM)[j]? = some u → (W4.alloc (.cells #[] 9)).cell? ((⟨g, 0, none⟩ : Addr).add j) = some u := by
          have := news_from (k := 0) (o := 0) hb0 hg4 HG.out (fun _ => rfl)
          simpa using this
        have HNews : Hid (∀ j u, (strCells oM)[j]? = some u → (W4.alloc (.cells #[] 9)).cell? ((⟨g, 0, none⟩ : Addr).add j) = some u) := hnews
        clear hnews
        clear hc b34 hW r0 r1 g0 g1 hb0
        go_upto_region 7 with fail
        rw [← hW4.out]
        clear hW4
        generalize hbx : w3.heap.size = bx at *
        go_wp2_with (at_builtin; go_must (refine wpList_append_own _ rfl _ _ 23 rfl W4.heap.size 9 i0 (.string ⟨#[]⟩) 1 16 Tryd.underlying23 hi hz0 hz1 hz2 rfl (by decide) _ _ _ rfl (World.ownsRow_made W4 #[] 0 (Nat.le_refl _) (Nat.zero_le _) rfl) ⟨g, 0, none⟩ oM.length _ (strCells oM) rfl (by simp [strCells]) HNews.out strCells_one (by unfold maxLen; omega) (by omega) (by simp) ?_))
        intro V w5 ho1 hg1 hn1
        have BY : Below W4.heap.size W4 w5 := HB5.out.grown hg1 (by simp) (fun j hj => by simp [Value.ownBlock] at hj; omega)
        have x0' : w5.cell? ⟨bx, 0, none⟩ = some (.string op) := ((bcell BY).1 _ _ z4).trans x0
        have x1' : w5.cell? ⟨bx, 1, none⟩ = some (.slice (some ⟨g, 0, none⟩) oM.length c) := ((bcell BY).1 _ _ z4).trans x1
        have y1' : w5.frozen? ⟨bx, 1, none⟩ = false := ((bcell BY).2 _ _ z4).trans y1
        have z4r : w.heap.size < W4.heap.size := by omega
        have S5 : SliceS w5 W4.heap.size V oM.length (atL oM) := slice_of_own (by simpa using ho1)
        obtain ⟨W6, hW⟩ : ∃ W6, W6 = w5.setCell ⟨bx, 1, none⟩ V := ⟨_, rfl⟩
        have hW6 : Hid (W6 = w5.setCell ⟨bx, 1, none⟩ V) := hW
        obtain ⟨k0, k1, k2, k3, k4, k5⟩ := box_put (V := V) hne x0' x1' (((bcell BY).1 _ _ z4r).trans s0) (((bcell BY).1 _ _ z4r).trans s1) (((bcell BY).2 _ _ z4r).trans t0) (((bcell BY).2 _ _ z4r).trans t1)
        rw [← hW] at k0 k1 k2 k3 k4 k5
        have B5 : Below w.heap.size w w5 := B4.out.trans (BY.mono (Nat.le_of_lt z4r))
        have B6 : Hid (Below w.heap.size w W6) := by show Below _ _ _; rw [hW]; exact B5.setCell (by show w.heap.size ≤ bx; omega) _
        have SL : Hid (∀ a b, SliceS ((W6.setCell ⟨w.heap.size, 0, none⟩ a).setCell ⟨w.heap.size, 1, none⟩ b) w.heap.size V oM.length (atL oM)) := fun a b => by
          obtain ⟨gv, ev, hv, -⟩ := S5.place hpos
          have n1 : 0 < oM.length → V.ownBlock ≠ some bx := fun _ h => by rw [ev] at h; have := Option.some.inj h; omega
          have n2 : 0 < oM.length → V.ownBlock ≠ some w.heap.size := fun _ h => by rw [ev] at h; have := Option.some.inj h; omega
          rw [hW]
          exact SliceS.mono (((S5.setFar n1).setFar n2).setFar n2) (Nat.le_of_lt z4r)
        obtain ⟨vp, vc, rfl, -⟩ := id S5
        clear BY x0' S5 ho1 hg1 hn1 B5 hW HNews HG HB5 x0 x1 y1 s0 s1 t0 t1
        go_upto_region 8 with fail
        rw [← hW6.out]
        clear hW6 x1' y1'
        go_wp2
        exact bodyPost_ret (v := .agg #[.string op, .slice vp oM.length vc]) (by simp [results, Tryd.results38, go_sem, k2, k3]) rfl ⟨.slice vp oM.length vc, by rw [HQ2.out], by rw [HQ2.out]; exact SL.out _ _, (B6.out.setCell (Nat.le_refl _) _).setCell (Nat.le_refl _) _⟩
end Go.Proofs.YtfoekelhcmlagaaDoor

/- The walk of the program's bookOf. -/
namespace Go.Proofs.YtfoekelhcmlagaaDoor
open Go.RowKit Go.Maps

/-- what is there already, stored once more -/
theorem setCell_same5 {w : World} {b o : Nat} {v : Value} (h : w.cell? ⟨b, o, none⟩ = some v) : w.setCell ⟨b, o, none⟩ v = w := by
  have hb : b < w.heap.size := by
    by_cases hb : b < w.heap.size
    · exact hb
    · exfalso
      simp [World.cell?, Array.getElem?_eq_none (show w.heap.size ≤ b by omega)] at h
  have hs : (w.setCell ⟨b, o, none⟩ v).heap = w.heap := by
    refine Array.ext (by simp [World.setCell]) (fun i h1 h2 => ?_)
    by_cases e : i = b
    · subst e
      unfold World.cell? at h
      rw [Array.getElem?_eq_getElem hb] at h
      simp only [World.setCell, Array.getElem_modify, if_true]
      cases hc : w.heap[i] with
      | cells c t fz =>
        rw [hc] at h
        simp only [Option.isSome_none, Bool.false_eq_true, if_false] at h ⊢
        congr 1
        refine Array.ext (by simp) (fun k k1 k2 => ?_)
        rw [Array.getElem_setIfInBounds]
        split
        · rename_i e2
          subst e2
          have h3 : c[o]? = some v := by simpa using h
          rw [Array.getElem?_eq_getElem (by simpa using k1)] at h3
          exact (Option.some.inj h3).symm
        · rfl
      | _ => rfl
    · simp only [World.setCell, Array.getElem_modify, if_neg (Ne.symm e)]
  cases w
  simp only [World.setCell] at hs ⊢
  rw [hs]
/-- the five errors stand -/
def ErrsI (w : World) : Prop := ErrAt w 0 ∧ ErrAt w 1 ∧ ErrAt w 2 ∧ ErrAt w 3 ∧ ErrAt w 5
theorem ErrAt.on {w w' : World} {g B : Nat} (h : ErrAt w g) (hb : Below B w w') (hB : w.heap.size ≤ B ∨ g < B) : ErrAt w' g := by
  obtain ⟨ty, v, h⟩ := h
  have hg := World.block_lt_of_cell? w _ h
  exact ⟨ty, v, by rw [hb.cell (p := ⟨g, 0, none⟩) (hB.elim (fun h => Nat.lt_of_lt_of_le hg h) id)]; exact h⟩
theorem ErrsI.below {w w' : World} (h : ErrsI w) (hb : Below w.heap.size w w') : ErrsI w' := ⟨h.1.on hb (.inl (Nat.le_refl _)), h.2.1.on hb (.inl (Nat.le_refl _)), h.2.2.1.on hb (.inl (Nat.le_refl _)), h.2.2.2.1.on hb (.inl (Nat.le_refl _)), h.2.2.2.2.on hb (.inl (Nat.le_refl _))⟩
theorem bookB_no {n : Nat} {f : Nat → ByteArray} {L : List SetL} (h : rulesB n f = false) : bookB n f L = false := by unfold bookB; rw [h]; rfl
theorem bookB_at {n : Nat} {f : Nat → ByteArray} {L : List SetL} (k : Nat) (hk : k < L.length) (h : okB n f L k = false) : bookB n f L = false := by
  unfold bookB
  rw [decide_eq_false (p := ∀ k, k < L.length → okB n f L k = true) (fun h' => by rw [h' k hk] at h; cases h), Bool.and_false]
theorem bookB_all {n : Nat} {f : Nat → ByteArray} {L : List SetL} (hr : rulesB n f = true) (h : ∀ k, k < L.length → okB n f L k = true) : bookB n f L = true := by
  unfold bookB; rw [hr, decide_eq_true h]; rfl
theorem okB_add {n : Nat} {f : Nat → ByteArray} {L : List SetL} {k : Nat} (h : addB n f (plOf L k) k (atS L k) = false) : okB n f L k = false := by unfold okB; rw [h, Bool.and_false]
theorem okB_order {n : Nat} {f : Nat → ByteArray} {L : List SetL} {m : Nat} (h : Op.bytesLess (atS L m).1.toList (atS L (m + 1)).1.toList = false) : okB n f L (m + 1) = false := by
  unfold okB; rw [Nat.add_sub_cancel, h]; rfl
theorem okB_yes {n : Nat} {f : Nat → ByteArray} {L : List SetL} {k : Nat} (h : addB n f (plOf L k) k (atS L k) = true) (h2 : k = 0 ∨ Op.bytesLess (atS L (k - 1)).1.toList (atS L k).1.toList = true) : okB n f L k = true := by
  unfold okB
  rw [h, Bool.and_true, Bool.or_eq_true, beq_iff_eq]
  exact h2
theorem okB_succ {n : Nat} {f : Nat → ByteArray} {L : List SetL} {k : Nat} (h : ∀ i, i < k → okB n f L i = true) (hk : okB n f L k = true) : ∀ i, i < k + 1 → okB n f L i = true := by
  intro i hi
  by_cases e : i = k
  · subst e; exact hk
  · exact h i (by omega)
theorem okB_six {n : Nat} {f : Nat → ByteArray} {L : List SetL} {k : Nat} (h : ∀ i, i < k → okB n f L i = true) : k ≤ 6 := by
  by_cases h6 : 6 < k
  · have := h 6 h6
    unfold okB addB at this
    rw [decide_eq_true rfl] at this
    simp at this
  · omega
theorem BookR.setLow {w : World} {B0 b bm r o : Nat} {rv sv x : Value} {T : List (SetL × Value)} (h : BookR w B0 b bm rv T sv) (hr : r < B0) : BookR (w.setCell ⟨r, o, none⟩ x) B0 b bm rv T sv where
  hb := h.hb
  hbm := h.hbm
  c0 := by rw [World.cell?_setCell_other _ _ _ _ (by intro e; injection e with e; have := h.hb; omega)]; exact h.c0
  c1 := by rw [World.cell?_setCell_other _ _ _ _ (by intro e; injection e with e; have := h.hb; omega)]; exact h.c1
  c2 := by rw [World.cell?_setCell_other _ _ _ _ (by intro e; injection e with e; have := h.hb; omega)]; exact h.c2
  fz := fun o => by rw [World.frozen?_setCell]; exact h.fz o
  own := own_far h.own (fun e => by have := (own_in5 h.own e).1; omega)
  nb := h.nb
  mem := fun t ht => ⟨(h.mem t ht).1.setFar (fun hn => by
    obtain ⟨g, e, hg, -⟩ := (h.mem t ht).1.place hn
    rw [e]
    intro e2
    have := Option.some.inj e2
    omega), (h.mem t ht).2⟩
/-- what the book is in the end -/
def BookIs (w : World) (B0 : Nat) (v : Value) (rv : Value) (L : List SetL) : Prop := ∃ B1 b bm T sv, B0 ≤ B1 ∧ v = .agg #[rv, sv, .map (some bm)] ∧ T.map Prod.fst = L ∧ BookR w B1 b bm rv T sv ∧ MapIs w bm 30 (plOf L L.length)
theorem take_snoc5 {L : List SetL} {k : Nat} (hk : k < L.length) : L.take (k + 1) = L.take k ++ [atS L k] := by
  rw [List.take_succ_eq_append_getElem hk]
  simp [atS, hk]
set_option maxRecDepth 10000 in
set_option maxHeartbeats 8000000 in
theorem bookOf_any (rv lv : Value) (n B B' : Nat) (f : Nat → ByteArray) (L : List SetL) (w : World) (hG : MaxI w) (hE : ErrsI w) (hr : SliceS w B rv n f) (l1 : n ≤ 1048576) (hf : ∀ i, i < n → (f i).size ≤ 1048576) (hs : SliceT w B' lv L) (hn : L.length ≤ 1048576) (hz : ∀ j, j < L.length → szS (atS L j)) :
    Calls Tryd.prog 95 #[rv, lv] w fun e w' => ((setsB n f L = true ∧ ∃ v, e = .returned (.tuple #[v, .nilIface]) ∧ BookIs w' w.heap.size v rv L) ∨ (setsB n f L = false ∧ ∃ ty v, e = .returned (.tuple #[.agg #[.slice none 0 0, .slice none 0 0, .map none], .iface ty v]))) ∧ Below w.heap.size w w' := by
  rw [← bookB_sets]
  have HNo : Hid (rulesB n f = false → bookB n f L = false) := fun h => bookB_no h
  have HAt : Hid (∀ k, k < L.length → okB n f L k = false → bookB n f L = false) := fun k a b => bookB_at k a b
  have HAll : Hid (rulesB n f = true → (∀ k, k < L.length → okB n f L k = true) → bookB n f L = true) := fun a b => bookB_all a b
  obtain ⟨uu, ⟨q, cap, rfl, hg⟩, hu, -⟩ := hs
  have HSl : Hid (SliceS w B rv n f) := hr
  have HG0 : Hid (MaxI w) := hG
  have HE0 : Hid (ErrsI w) := hE
  have HZ : Hid (∀ j, j < L.length → szS (atS L j)) := hz
  have HU : Hid (∀ j, j < L.length → SliceS w B' (uu j) (atS L j).2.length (atL (atS L j).2)) := hu
  have HF : Hid (∀ i, i < n → (f i).size ≤ 1048576) := hf
  have HGc : Hid (0 < L.length → ∃ g, q = some ⟨g, 0, none⟩ ∧ g < w.heap.size ∧ ∀ j, j < L.length → w.cell? ⟨g, j * 2, none⟩ = some (.string (atS L j).1) ∧ w.cell? ⟨g, j * 2 + 1, none⟩ = some (uu j)) := fun h0 => by
    obtain ⟨g, e, -, hgw, hc⟩ := hg h0
    exact ⟨g, e, hgw, fun j hj => ⟨(hc j hj 0 (by omega)).1, (hc j hj 1 (by omega)).1⟩⟩
  obtain ⟨rp, rc, rfl, -⟩ := hr
  clear hg hu hG hE hz hf
  generalize bookB n f L = R at *
  obtain ⟨W0, hW⟩ : ∃ W0, W0 = w.alloc (.cells #[.slice none 0 0, .slice none 0 0, .map none] 107) := ⟨_, rfl⟩
  have hW0 : Hid (W0 = w.alloc (.cells #[.slice none 0 0, .slice none 0 0, .map none] 107)) := hW
  have HB0 : Hid (Below w.heap.size w W0) := by show Below _ _ _; rw [hW]; exact (Below.refl _ _).alloc (Nat.le_refl _) _
  have z0 : w.heap.size < W0.heap.size := by rw [hW]; simp
  have a0 : W0.cell? ⟨w.heap.size, 0, none⟩ = some (.slice none 0 0) := by rw [hW]; simp
  have a1 : W0.cell? ⟨w.heap.size, 1, none⟩ = some (.slice none 0 0) := by rw [hW]; simp
  have a2 : W0.cell? ⟨w.heap.size, 2, none⟩ = some (.map none) := by rw [hW]; simp
  have af : Hid (∀ o, W0.frozen? ⟨w.heap.size, o, none⟩ = false) := by intro o; rw [hW]; simp
  clear hW
  have KR : Hid (Calls Tryd.prog 23 #[.slice rp n rc] W0 fun e w' => e = .returned (.bool (rulesB n f)) ∧ Below W0.heap.size W0 w') := rulesRight_any _ n B f W0 (HG0.out.on HB0.out) (HSl.out.below HB0.out) l1 HF.out
  generalize hrb : rulesB n f = rb at *
  go_enter Tryd.func95, Tryd.ntmps95
  go_upto_region 1 with fail
  rw [← hW0.out]
  clear hW0
  go_wp2_with fail
  refine KR.out.mono ?_
  rintro e w1 ⟨rfl, hb1⟩
  have B1 : Hid (Below w.heap.size w w1) := HB0.out.trans (hb1.mono HB0.out.size)
  have z1 : w.heap.size < w1.heap.size := Nat.lt_of_lt_of_le z0 hb1.size
  have b0 : w1.cell? ⟨w.heap.size, 0, none⟩ = some (.slice none 0 0) := ((bcell hb1).1 _ _ z0).trans a0
  have b1 : w1.cell? ⟨w.heap.size, 1, none⟩ = some (.slice none 0 0) := ((bcell hb1).1 _ _ z0).trans a1
  have b2 : w1.cell? ⟨w.heap.size, 2, none⟩ = some (.map none) := ((bcell hb1).1 _ _ z0).trans a2
  have bf : Hid (∀ o, w1.frozen? ⟨w.heap.size, o, none⟩ = false) := fun o => ((bcell hb1).2 _ _ z0).trans (af.out o)
  have E1 : Hid (ErrsI w1) := HE0.out.below B1.out
  clear hb1 a0 a1 a2 af KR HB0 HE0
  cases rb with
  | false =>
    have HQ : Hid (R = false) := HNo.out rfl
    obtain ⟨ety, ev, hev⟩ := E1.out.1
    have f0 := bf.out 0
    have f1 := bf.out 1
    have f2 := bf.out 2
    have s0 : w1.setCell ⟨w.heap.size, 0, none⟩ (.slice none 0 0) = w1 := setCell_same5 b0
    have s1 : w1.setCell ⟨w.heap.size, 1, none⟩ (.slice none 0 0) = w1 := setCell_same5 b1
    have s2 : w1.setCell ⟨w.heap.size, 2, none⟩ (.map none) = w1 := setCell_same5 b2
    have t0 : w1.drew.setCell ⟨w.heap.size, 0, none⟩ (.slice none 0 0) = w1.drew := setCell_same5 b0
    have t1 : w1.drew.setCell ⟨w.heap.size, 1, none⟩ (.slice none 0 0) = w1.drew := setCell_same5 b1
    have t2 : w1.drew.setCell ⟨w.heap.size, 2, none⟩ (.map none) = w1.drew := setCell_same5 b2
    clear HNo HAt HAll
    go_wp2_with fail
    go_region
    go_wp2
    exact bodyPost_ret (v := .tuple #[.agg #[.slice none 0 0, .slice none 0 0, .map none], .iface ety ev]) (by simp [results, Tryd.results95, go_sem, b0, b1, b2]) rfl ⟨.inr ⟨HQ.out, _, _, rfl⟩, B1.out.drew⟩
  | true =>
    have HAll1 : Hid ((∀ k, k < L.length → okB n f L k = true) → R = true) := HAll.out rfl
    clear HNo HAll
    have hmm := @run_makeMap Tryd.prog
    obtain ⟨W2, hW⟩ : ∃ W2, W2 = ((w1.alloc (.map #[] 0)).alloc (.cells #[.slice rp n rc, .slice none 0 0, .map (some w1.heap.size)] 107)) := ⟨_, rfl⟩
    have hW2 : Hid (W2 = ((w1.alloc (.map #[] 0)).alloc (.cells #[.slice rp n rc, .slice none 0 0, .map (some w1.heap.size)] 107))) := hW
    have HB2 : Hid (Below w1.heap.size w1 W2) := by show Below _ _ _; rw [hW]; exact ((Below.refl _ _).alloc (Nat.le_refl _) _).alloc (by simp) _
    have M2 : Hid (MapIs W2 w1.heap.size 0 (plOf L 0)) := by
      show MapIs _ _ _ _
      rw [hW]
      exact (mapIs_made w1).below ((Below.refl _ _).alloc (Nat.le_refl _) _)
    have K2 : Hid (BookR W2 w1.heap.size (w1.heap.size + 1) w1.heap.size (.slice rp n rc) [] (.slice none 0 0)) := by
      show BookR _ _ _ _ _ _ _
      rw [hW]
      exact ⟨by omega, Nat.le_refl _, (World.cell?_alloc_at _ _ _ _ (by simp)).trans rfl, (World.cell?_alloc_at _ _ _ _ (by simp)).trans rfl, (World.cell?_alloc_at _ _ _ _ (by simp)).trans rfl, fun o => World.frozen?_alloc_at _ _ _ _ (by simp), World.ownsRow_nil _ _ _ _, (by intro e; cases e), fun t ht => by cases ht⟩
    clear hW
    go_upto_region 4 with fail
    rw [← hW2.out]
    clear hW2 hmm
    go_wp2
    go_loopw [20] (fun i wr => ∃ (k : Nat) (T : List (SetL × Value)) (sv : Value), k ≤ L.length ∧ i = .int .i64 k ∧ Hid (T.map Prod.fst = L.take k) ∧ Hid (BookR wr w1.heap.size (w1.heap.size + 1) w1.heap.size (.slice rp n rc) T sv) ∧ Hid (MapIs wr w1.heap.size (5 * k) (plOf L k)) ∧ Hid (Below w1.heap.size w1 wr) ∧ Hid (∀ j, j < k → okB n f L j = true)) (fun i _ => L.length - (intOf i).toNat)
    case atStart => exact ⟨0, [], _, Nat.zero_le _, rfl, rfl, K2, M2, HB2, fun j hj => absurd hj (by omega)⟩
    case round =>
      obtain ⟨k, T, sv, hk, rfl, HT, HK, HM, HB, HR⟩ := hrel
      have r0 : wr.cell? ⟨w.heap.size, 0, none⟩ = some (.slice none 0 0) := ((bcell HB.out).1 _ _ z1).trans b0
      have r1 : wr.cell? ⟨w.heap.size, 1, none⟩ = some (.slice none 0 0) := ((bcell HB.out).1 _ _ z1).trans b1
      have r2 : wr.cell? ⟨w.heap.size, 2, none⟩ = some (.map none) := ((bcell HB.out).1 _ _ z1).trans b2
      have RF : Hid (∀ o, wr.frozen? ⟨w.heap.size, o, none⟩ = false) := fun o => ((bcell HB.out).2 _ _ z1).trans (bf.out o)
      have hz1r : w1.heap.size ≤ wr.heap.size := HB.out.size
      have BW : Hid (Below w.heap.size w wr) := B1.out.trans (HB.out.mono (Nat.le_of_lt z1))
      by_cases hlt : k < L.length
      · obtain ⟨g, rfl, hgw, hc⟩ := HGc.out (by omega)
        have h6 : k ≤ 6 := okB_six HR.out
        have hTl : T.length = k := by
          have := congrArg List.length HT.out
          rw [List.length_map, List.length_take] at this; omega
        have HTl : Hid (T.length = k) := hTl
        have c0 : wr.cell? ⟨g, k * 2, none⟩ = some (.string (atS L k).1) := ((bcell BW.out).1 _ _ hgw).trans (hc k hlt).1
        have c1 : wr.cell? ⟨g, k * 2 + 1, none⟩ = some (uu k) := ((bcell BW.out).1 _ _ hgw).trans (hc k hlt).2
        have k0 : (0 : Int) ≤ k := by omega
        have k1 : (k : Int) < L.length := by omega
        have SU : Hid (SliceS wr B' (uu k) (atS L k).2.length (atL (atS L k).2)) := (HU.out k hlt).below BW.out
        obtain ⟨up, uc, hup, -⟩ := SU.out
        obtain ⟨y1, y2, y3⟩ := HZ.out k hlt
        have KA0 : ∀ W, Below wr.heap.size wr W → Calls Tryd.prog 148 #[.pointer (some ⟨w1.heap.size + 1, 0, none⟩), .agg #[.string (atS L k).1, uu k]] W fun e w' =>
            ((addB n f (plOf L k) k (atS L k) = true ∧ e = .returned .nilIface ∧ (∃ u' sv', BookR w' w1.heap.size (w1.heap.size + 1) w1.heap.size (.slice rp n rc) (T ++ [(atS L k, u')]) sv') ∧ MapIs w' w1.heap.size (5 * k + 5) (plOf L (k + 1))) ∨ (addB n f (plOf L k) k (atS L k) = false ∧ (∃ ty v, e = .returned (.iface ty v)) ∧ BookR w' w1.heap.size (w1.heap.size + 1) w1.heap.size (.slice rp n rc) T sv ∧ MapIs w' w1.heap.size (5 * k + 5) (plOf L k))) ∧ Below w1.heap.size W w' := fun W hb => by
          have BWW : Below w.heap.size w W := BW.out.trans (hb.mono BW.out.size)
          have h := add_any w1.heap.size (w1.heap.size + 1) w1.heap.size (5 * k) n B B' (.slice rp n rc) sv (uu k) f T (plOf L k) (atS L k) W (HG0.out.on BWW) (HSl.out.below BWW) l1 HF.out (SU.out.below hb) y2 y1 y3 (HK.out.below hb) (HM.out.below hb) (by omega) (by omega) (E1.out.2.2.1.on (HB.out.trans (hb.mono HB.out.size)) (.inl (Nat.le_refl _))) (E1.out.2.2.2.1.on (HB.out.trans (hb.mono HB.out.size)) (.inl (Nat.le_refl _))) (E1.out.2.2.2.2.on (HB.out.trans (hb.mono HB.out.size)) (.inl (Nat.le_refl _)))
          rw [HTl.out] at h
          exact h
        have HOrd : Hid (∀ m, k = m + 1 → wr.cell? ⟨g, m * 2, none⟩ = some (.string (atS L m).1)) := fun m e => ((bcell BW.out).1 _ _ hgw).trans (hc m (by omega)).1
        have HNo : Hid (addB n f (plOf L k) k (atS L k) = false → R = false) := fun e => HAt.out k hlt (okB_add e)
        have HNext : Hid (∀ u', (T ++ [(atS L k, u')]).map Prod.fst = L.take (k + 1)) := fun u' => by rw [List.map_append, HT.out, take_snoc5 hlt]; rfl
        have HYes : Hid (addB n f (plOf L k) k (atS L k) = true → (k = 0 ∨ Op.bytesLess (atS L (k - 1)).1.toList (atS L k).1.toList = true) → ∀ j, j < k + 1 → okB n f L j = true) := fun a b => okB_succ HR.out (okB_yes a b)
        have HOrdN : Hid (∀ m, k = m + 1 → Op.bytesLess (atS L m).1.toList (atS L (m + 1)).1.toList = false → R = false) := fun m e h => by subst e; exact HAt.out (m + 1) hlt (okB_order h)
        have hge : ∀ (t : TypeId) (a b : ByteArray), binOp .geq t (.string a) (.string b) = pure (.bool (!(Op.bytesLess a.toList b.toList))) := geq_text
        rw [hup] at KA0 c1
        clear hc hup y1 y2 y3
        generalize (atS L k).2.length = nu at *
        generalize hpk : (atS L k).1 = pk at *
        obtain ⟨W3, hW⟩ : ∃ W3, W3 = wr.alloc (.cells #[.string pk, .slice up nu uc] 47) := ⟨_, rfl⟩
        have hW3 : Hid (W3 = wr.alloc (.cells #[.string pk, .slice up nu uc] 47)) := hW
        have HB3 : Hid (Below wr.heap.size wr W3) := by show Below _ _ _; rw [hW]; exact (Below.refl _ _).alloc (Nat.le_refl _) _
        have d0 : W3.cell? ⟨wr.heap.size, 0, none⟩ = some (.string pk) := by rw [hW]; simp
        have d1 : W3.cell? ⟨wr.heap.size, 1, none⟩ = some (.slice up nu uc) := by rw [hW]; simp
        have hz3 : wr.heap.size < W3.heap.size := by rw [hW]; simp
        have hwr : w.heap.size < wr.heap.size := Nat.lt_of_lt_of_le z1 hz1r
        have q0 : W3.cell? ⟨w.heap.size, 0, none⟩ = some (.slice none 0 0) := ((bcell HB3.out).1 _ _ hwr).trans r0
        have q1 : W3.cell? ⟨w.heap.size, 1, none⟩ = some (.slice none 0 0) := ((bcell HB3.out).1 _ _ hwr).trans r1
        have q2 : W3.cell? ⟨w.heap.size, 2, none⟩ = some (.map none) := ((bcell HB3.out).1 _ _ hwr).trans r2
        have QF : Hid (∀ o, W3.frozen? ⟨w.heap.size, o, none⟩ = false) := fun o => ((bcell HB3.out).2 _ _ hwr).trans (RF.out o)
        have KA : Hid (∀ W, Below W3.heap.size W3 W → Calls Tryd.prog 148 #[.pointer (some ⟨w1.heap.size + 1, 0, none⟩), .agg #[.string pk, .slice up nu uc]] W fun e w' =>
            ((addB n f (plOf L k) k (atS L k) = true ∧ e = .returned .nilIface ∧ (∃ u' sv', BookR w' w1.heap.size (w1.heap.size + 1) w1.heap.size (.slice rp n rc) (T ++ [(atS L k, u')]) sv') ∧ MapIs w' w1.heap.size (5 * k + 5) (plOf L (k + 1))) ∨ (addB n f (plOf L k) k (atS L k) = false ∧ (∃ ty v, e = .returned (.iface ty v)) ∧ BookR w' w1.heap.size (w1.heap.size + 1) w1.heap.size (.slice rp n rc) T sv ∧ MapIs w' w1.heap.size (5 * k + 5) (plOf L k))) ∧ Below w1.heap.size W w') := fun W hb => KA0 W (HB3.out.trans (hb.mono HB3.out.size))
        have BW3 : Hid (Below w.heap.size w W3) := BW.out.trans (HB3.out.mono BW.out.size)
        have BV3 : Hid (Below w1.heap.size w1 W3) := HB.out.trans (HB3.out.mono hz1r)
        clear hW KA0 HK HM HT HTl hTl r0 r1 r2 RF SU
        go_upto_region 7 with fail
        rw [← hW3.out]
        clear hW3
        cases k with
        | zero =>
          have q5 : decide ((0 : Int) < ((0 : Nat) : Int)) = false := by decide
          clear HOrd HOrdN
          go_region
          go_wp2_with fail
          refine (KA.out _ (by first | exact Below.drew (Below.refl _ _) | exact Below.refl _ _)).mono ?_
          rintro e w4 ⟨hres, hb4⟩
          have B4 : Hid (Below w1.heap.size w1 w4) := BV3.out.trans (by first | exact (Below.drew (Below.refl _ _)).trans hb4 | exact hb4)
          have BW4 : Hid (Below w.heap.size w w4) := B1.out.trans (B4.out.mono (Nat.le_of_lt z1))
          have p0 : w4.cell? ⟨w.heap.size, 0, none⟩ = some (.slice none 0 0) := ((bcell B4.out).1 _ _ z1).trans b0
          have p1 : w4.cell? ⟨w.heap.size, 1, none⟩ = some (.slice none 0 0) := ((bcell B4.out).1 _ _ z1).trans b1
          have p2 : w4.cell? ⟨w.heap.size, 2, none⟩ = some (.map none) := ((bcell B4.out).1 _ _ z1).trans b2
          have PF : Hid (∀ o, w4.frozen? ⟨w.heap.size, o, none⟩ = false) := fun o => ((bcell B4.out).2 _ _ z1).trans (bf.out o)
          clear hb4 q0 q1 q2 d0 d1
          rcases hres with ⟨ha, rfl, ⟨u', sv', hk4⟩, hm4⟩ | ⟨ha, ⟨ety, ev, rfl⟩, -, -⟩
          · have HR2 : Hid (∀ j, j < 0 + 1 → okB n f L j = true) := HYes.out ha (by first | exact .inl rfl | exact .inl trivial)
            have HK4 : Hid (BookR w4 w1.heap.size (w1.heap.size + 1) w1.heap.size (.slice rp n rc) (T ++ [(atS L 0, u')]) sv') := hk4
            have HM4 : Hid (MapIs w4 w1.heap.size (5 * (0 + 1)) (plOf L (0 + 1))) := hm4
            have HT4 := HNext.out u'
            have HT5 : Hid ((T ++ [(atS L 0, u')]).map Prod.fst = L.take (0 + 1)) := HT4
            clear ha hk4 hm4 HT4
            go_wp2
            go_roundw
            case rel => exact ⟨0 + 1, _, sv', by omega, by go_num, HT5, HK4, HM4, B4, HR2⟩
            case measure => simp [intOf]; omega
          · have HQ : Hid (R = false) := HNo.out ha
            have f0 := PF.out 0
            have f1 := PF.out 1
            have f2 := PF.out 2
            have s0 : w4.setCell ⟨w.heap.size, 0, none⟩ (.slice none 0 0) = w4 := setCell_same5 p0
            have s1 : w4.setCell ⟨w.heap.size, 1, none⟩ (.slice none 0 0) = w4 := setCell_same5 p1
            have s2 : w4.setCell ⟨w.heap.size, 2, none⟩ (.map none) = w4 := setCell_same5 p2
            clear ha
            go_wp2
            exact bodyPost_ret (v := .tuple #[.agg #[.slice none 0 0, .slice none 0 0, .map none], .iface ety ev]) (by simp [results, Tryd.results95, go_sem, p0, p1, p2]) rfl ⟨.inr ⟨HQ.out, _, _, rfl⟩, BW4.out⟩
        | succ m =>
          have cm := HOrd.out m rfl
          have cm3 : W3.cell? ⟨g, m * 2, none⟩ = some (.string (atS L m).1) := ((bcell HB3.out).1 _ _ (Nat.lt_trans hgw hwr)).trans cm
          have HON := HOrdN.out m rfl
          have q5 : decide ((0 : Int) < ((m : Int) + 1)) = true := by rw [decide_eq_true_iff]; omega
          have hw1 : IntKind.i64.wrap ((m : Int) + 1 - 1) = m := by
            rw [IntKind.wrap_i64]; omega
          have hw2 : IntKind.i64.wrap (m : Int) = m := by rw [IntKind.wrap_i64]; omega
          have m0 : (0 : Int) ≤ m := by omega
          have m1 : (m : Int) < L.length := by omega
          have HY2 : Hid (addB n f (plOf L (m + 1)) (m + 1) (atS L (m + 1)) = true → Op.bytesLess (atS L m).1.toList pk.toList = true → ∀ j, j < m + 1 + 1 → okB n f L j = true) := fun a b => HYes.out a (.inr b)
          rw [hpk] at HON
          clear HOrd HOrdN HYes cm
          generalize (atS L m).1 = pm at *
          cases hl : Op.bytesLess pm.toList pk.toList with
          | false =>
            have HQ : Hid (R = false) := HON hl
            obtain ⟨ety, ev, hev⟩ := E1.out.2.1.on BV3.out (.inl (Nat.le_refl _))
            have f0 := QF.out 0
            have f1 := QF.out 1
            have f2 := QF.out 2
            have s0 : W3.setCell ⟨w.heap.size, 0, none⟩ (.slice none 0 0) = W3 := setCell_same5 q0
            have s1 : W3.setCell ⟨w.heap.size, 1, none⟩ (.slice none 0 0) = W3 := setCell_same5 q1
            have s2 : W3.setCell ⟨w.heap.size, 2, none⟩ (.map none) = W3 := setCell_same5 q2
            clear HON HY2 KA HNo HNext
            go_region
            go_wp2_with fail
            go_region
            go_wp2
            exact bodyPost_ret (v := .tuple #[.agg #[.slice none 0 0, .slice none 0 0, .map none], .iface ety ev]) (by simp [results, Tryd.results95, go_sem, q0, q1, q2]) rfl ⟨.inr ⟨HQ.out, _, _, rfl⟩, BW3.out.drew.drew⟩
          | true =>
            have HYes : Hid (addB n f (plOf L (m + 1)) (m + 1) (atS L (m + 1)) = true → True → ∀ j, j < m + 1 + 1 → okB n f L j = true) := fun a _ => HY2.out a hl
            clear HON HY2
            go_region
            go_wp2_with fail
            refine (KA.out _ (by first | exact Below.drew (Below.refl _ _) | exact Below.refl _ _)).mono ?_
            rintro e w4 ⟨hres, hb4⟩
            have B4 : Hid (Below w1.heap.size w1 w4) := BV3.out.trans (by first | exact (Below.drew (Below.refl _ _)).trans hb4 | exact hb4)
            have BW4 : Hid (Below w.heap.size w w4) := B1.out.trans (B4.out.mono (Nat.le_of_lt z1))
            have p0 : w4.cell? ⟨w.heap.size, 0, none⟩ = some (.slice none 0 0) := ((bcell B4.out).1 _ _ z1).trans b0
            have p1 : w4.cell? ⟨w.heap.size, 1, none⟩ = some (.slice none 0 0) := ((bcell B4.out).1 _ _ z1).trans b1
            have p2 : w4.cell? ⟨w.heap.size, 2, none⟩ = some (.map none) := ((bcell B4.out).1 _ _ z1).trans b2
            have PF : Hid (∀ o, w4.frozen? ⟨w.heap.size, o, none⟩ = false) := fun o => ((bcell B4.out).2 _ _ z1).trans (bf.out o)
            clear hb4 q0 q1 q2 d0 d1
            rcases hres with ⟨ha, rfl, ⟨u', sv', hk4⟩, hm4⟩ | ⟨ha, ⟨ety, ev, rfl⟩, -, -⟩
            · have HR2 : Hid (∀ j, j < (m + 1) + 1 → okB n f L j = true) := HYes.out ha trivial
              have HK4 : Hid (BookR w4 w1.heap.size (w1.heap.size + 1) w1.heap.size (.slice rp n rc) (T ++ [(atS L (m + 1), u')]) sv') := hk4
              have HM4 : Hid (MapIs w4 w1.heap.size (5 * ((m + 1) + 1)) (plOf L ((m + 1) + 1))) := hm4
              have HT4 := HNext.out u'
              have HT5 : Hid ((T ++ [(atS L (m + 1), u')]).map Prod.fst = L.take ((m + 1) + 1)) := HT4
              clear ha hk4 hm4 HT4
              go_wp2
              go_roundw
              case rel => exact ⟨(m + 1) + 1, _, sv', by omega, by go_num, HT5, HK4, HM4, B4, HR2⟩
              case measure => simp [intOf]; omega
            · have HQ : Hid (R = false) := HNo.out ha
              have f0 := PF.out 0
              have f1 := PF.out 1
              have f2 := PF.out 2
              have s0 : w4.setCell ⟨w.heap.size, 0, none⟩ (.slice none 0 0) = w4 := setCell_same5 p0
              have s1 : w4.setCell ⟨w.heap.size, 1, none⟩ (.slice none 0 0) = w4 := setCell_same5 p1
              have s2 : w4.setCell ⟨w.heap.size, 2, none⟩ (.map none) = w4 := setCell_same5 p2
              clear ha
              go_wp2
              exact bodyPost_ret (v := .tuple #[.agg #[.slice none 0 0, .slice none 0 0, .map none], .iface ety ev]) (by simp [results, Tryd.results95, go_sem, p0, p1, p2]) rfl ⟨.inr ⟨HQ.out, _, _, rfl⟩, BW4.out⟩
      · obtain rfl : k = L.length := by omega
        have HQ : Hid (R = true) := HAll1.out HR.out
        have hl6 : L.length ≤ 6 := okB_six HR.out
        have x0 := HK.out.c0
        have x1 := HK.out.c1
        have x2 := HK.out.c2
        have f0 := RF.out 0
        have f1 := RF.out 1
        have f2 := RF.out 2
        obtain ⟨sp, sc, rfl⟩ : ∃ p c, sv = .slice p T.length c := by
          obtain ⟨_, ⟨rfl, h0⟩ | ⟨g, cap, cur, rfl, _⟩⟩ := HK.out.own
          · exact ⟨none, 0, by rw [h0]⟩
          · exact ⟨_, _, rfl⟩
        have HFin : Hid (∀ x y z : Value, BookIs (((wr.setCell ⟨w.heap.size, 0, none⟩ x).setCell ⟨w.heap.size, 1, none⟩ y).setCell ⟨w.heap.size, 2, none⟩ z) w.heap.size (.agg #[.slice rp n rc, .slice sp T.length sc, .map (some w1.heap.size)]) (.slice rp n rc) L) := fun x y z => ⟨w1.heap.size, _, _, T, _, Nat.le_of_lt z1, rfl, by rw [HT.out, List.take_length], ((HK.out.setLow z1).setLow z1).setLow z1, ((HM.out.mono (by omega)).far (by omega)).far (by omega) |>.far (by omega)⟩
        have HFB : Hid (∀ x y z : Value, Below w.heap.size w (((wr.setCell ⟨w.heap.size, 0, none⟩ x).setCell ⟨w.heap.size, 1, none⟩ y).setCell ⟨w.heap.size, 2, none⟩ z)) := fun x y z => ((BW.out.setCell (Nat.le_refl _) _).setCell (Nat.le_refl _) _).setCell (Nat.le_refl _) _
        go_wp2
        exact bodyPost_ret (v := .tuple #[.agg #[.slice rp n rc, .slice sp T.length sc, .map (some w1.heap.size)], .nilIface]) (by simp [results, Tryd.results95, go_sem, r0, r1, r2]) rfl ⟨.inl ⟨HQ.out, _, rfl, HFin.out _ _ _⟩, HFB.out _ _ _⟩
end Go.Proofs.YtfoekelhcmlagaaDoor

/- The law FnExactSetsRight, walked; the walk of the program's SetsRight. -/
namespace Go.Proofs.YtfoekelhcmlagaaDoor
open Go.RowKit Go.Maps

theorem bookR_slice {w : World} {B0 b bm : Nat} {rv sv : Value} {T : List (SetL × Value)} (h : BookR w B0 b bm rv T sv) : ∃ p c, sv = .slice p T.length c := by
  obtain ⟨_, ⟨rfl, h0⟩ | ⟨g, cap, cur, rfl, _⟩⟩ := h.own
  · exact ⟨none, 0, by rw [h0]⟩
  · exact ⟨_, _, rfl⟩
set_option maxRecDepth 10000 in
set_option maxHeartbeats 4000000 in
theorem setsRight_any (rv lv : Value) (n B B' : Nat) (f : Nat → ByteArray) (L : List SetL) (w : World) (hG : MaxI w) (hE : ErrsI w) (hr : SliceS w B rv n f) (l1 : n ≤ 1048576) (hf : ∀ i, i < n → (f i).size ≤ 1048576) (hs : SliceT w B' lv L) (hn : L.length ≤ 1048576) (hz : ∀ j, j < L.length → szS (atS L j)) :
    Calls Tryd.prog 33 #[rv, lv] w fun e w' => e = .returned (.bool (setsB n f L)) ∧ Below w.heap.size w w' := by
  have KB : Hid (Calls Tryd.prog 95 #[rv, lv] w fun e w' => ((setsB n f L = true ∧ ∃ v, e = .returned (.tuple #[v, .nilIface]) ∧ BookIs w' w.heap.size v rv L) ∨ (setsB n f L = false ∧ ∃ ty v, e = .returned (.tuple #[.agg #[.slice none 0 0, .slice none 0 0, .map none], .iface ty v]))) ∧ Below w.heap.size w w') := bookOf_any rv lv n B B' f L w hG hE hr l1 hf hs hn hz
  obtain ⟨rp, rc, rfl, -⟩ := hr
  clear hG hE hf hs hz
  generalize setsB n f L = R at *
  go_enter Tryd.func33, Tryd.ntmps33
  go_wp2_with fail
  refine KB.out.mono ?_
  rintro e w1 ⟨⟨rfl, v, rfl, hb⟩ | ⟨rfl, ty, v, rfl⟩, hb1⟩
  · obtain ⟨B1, b, bm, T, sv, -, rfl, -, hk, -⟩ := hb
    obtain ⟨sp, sc, rfl⟩ := bookR_slice hk
    clear hk
    go_wp2
    go_ret
    exact ⟨rfl, by first | exact hb1 | exact hb1.alloc hb1.size _⟩
  · go_wp2
    go_ret
    exact ⟨rfl, by first | exact hb1 | exact hb1.alloc hb1.size _⟩
set_option maxRecDepth 10000 in
set_option maxHeartbeats 4000000 in
theorem lawSetsRight_any (a0 : Option Addr) (n cap0 : Nat) (f : Nat → ByteArray) (a1 : Option Addr) (cap1 : Nat) (L : List SetL) (w : World) (hG : MaxI w) (hE : ErrsI w) (hr0 : StrRow w a0 n f) (hn0 : n ≤ maxLen) (hr1 : SetRow w a1 L) (hn1 : L.length ≤ maxLen) :
    Calls Tryd.prog 4 #[.slice a0 n cap0, .slice a1 L.length cap1] w fun e w' => e = .returned (.bool true) ∧ Below w.heap.size w w' := by
  have HR0 : Hid (StrRow w a0 n f) := hr0
  have HR1 : Hid (SetRow w a1 L) := hr1
  have HG : Hid (MaxI w) := hG
  have HE : Hid (ErrsI w) := hE
  clear hr0 hr1 hG hE
  go_enter Tryd.func4, Tryd.ntmps4
  go_wp2_with fail
  refine (szStringS_any a0 n cap0 f 1048576 _ HR0.out hn0 (by decide) (by decide)).mono ?_
  rintro e w0 ⟨⟨r, rfl, hr⟩, rfl⟩
  rcases hr with hr | ⟨r0, r1, hl, hf⟩
  · go_wp2
    go_ret
    exact ⟨rfl, Below.refl _ _⟩
  have q : decide (r < 0) = false := by rw [decide_eq_false_iff_not]; omega
  have hl2 : n ≤ 1048576 := by omega
  have HF : Hid (∀ i, i < n → (f i).size ≤ 1048576) := fun i hi => by have := hf i hi; omega
  clear hf hl
  go_wp2_with fail
  refine (szSiteSetS_any a1 cap1 L r _ HR1.out hn1 r0 (by omega)).mono ?_
  rintro e w1 ⟨⟨r', rfl, hr'⟩, hb1⟩
  have B1 : Hid (Below w0.heap.size w0 w1) := hb1
  clear hb1 r0 r1
  rcases hr' with hr' | ⟨r0, r1, hL, hz⟩
  · go_wp2
    go_ret
    exact ⟨rfl, B1.out⟩
  have q' : decide (r' < 0) = false := by rw [decide_eq_false_iff_not]; omega
  have HZ : Hid (∀ i, i < L.length → szS (atS L i)) := hz
  clear hz r0 r1
  have KT0 : Hid (∀ W, Below w0.heap.size w0 W → Calls Tryd.prog 31 #[.slice a0 n cap0] W fun e w' => ∃ v, e = .returned v ∧ SliceS w' W.heap.size v n f ∧ Below W.heap.size W w') := fun W hb => toStringS_any a0 n cap0 f W (HR0.out.below hb) hl2
  have KT1 : Hid (∀ W, Below w0.heap.size w0 W → Calls Tryd.prog 32 #[.slice a1 L.length cap1] W fun e w' => ∃ v, e = .returned v ∧ SliceT w' W.heap.size v L ∧ Below W.heap.size W w') := fun W hb => toSiteSetS_any a1 cap1 L W (HR1.out.below hb) hL (fun i hi => (HZ.out i hi).2.1)
  have KS : Hid (∀ (v v' : Value) (B B' : Nat) (W : World), SliceS W B v n f → SliceT W B' v' L → Calls Tryd.prog 30 #[v, v'] W fun e w' => e = .returned (.bool (setsB n f L)) ∧ Below W.heap.size W w') := fun v v' B B' W a b => specSetsRight_any v n B f v' L B' W a hl2 HF.out b hL (fun j hj => (HZ.out j hj).2.1)
  have KI : Hid (∀ (v v' : Value) (B B' : Nat) (W : World), Below w0.heap.size w0 W → SliceS W B v n f → SliceT W B' v' L → Calls Tryd.prog 33 #[v, v'] W fun e w' => e = .returned (.bool (setsB n f L)) ∧ Below W.heap.size W w') := fun v v' B B' W hb a b => setsRight_any v v' n B B' f L W (HG.out.on hb) (HE.out.below hb) a hl2 HF.out b hL HZ.out
  have KE1 : Hid (∀ (v v' : Value) (B B' : Nat) (W : World), SliceT W B v L → SliceT W B' v' L → Calls Tryd.prog 35 #[v, v'] W fun e w' => e = .returned (.bool true) ∧ Below W.heap.size W w') := fun v v' B B' W a b => eqSiteSetS_any v v' L B B' W a b hL (fun i hi => (HZ.out i hi).2.1)
  clear HG HE HF HZ HR0 HR1
  generalize setsB n f L = d at *
  go_wp2_with fail
  refine (KT0.out _ B1.out).mono ?_
  rintro e w2 ⟨v2, rfl, s2, hb2⟩
  have B2 : Hid (Below w0.heap.size w0 w2) := B1.out.trans (hb2.mono B1.out.size)
  have S2 : Hid (SliceS w2 w1.heap.size v2 n f) := s2
  clear s2 hb2
  go_wp2_with fail
  refine (KT1.out _ B2.out).mono ?_
  rintro e w3 ⟨v3, rfl, s3, hb3⟩
  have B3 : Hid (Below w0.heap.size w0 w3) := B2.out.trans (hb3.mono B2.out.size)
  have S2_3 : Hid (SliceS w3 w1.heap.size v2 n f) := S2.out.below hb3
  have S3 : Hid (SliceT w3 w2.heap.size v3 L) := s3
  clear s3 hb3 S2
  go_wp2_with fail
  refine (KS.out _ _ _ _ _ S2_3.out S3.out).mono ?_
  rintro e w4 ⟨rfl, hb4⟩
  have B4 : Hid (Below w0.heap.size w0 w4) := B3.out.trans (hb4.mono B3.out.size)
  clear hb4 S2_3 S3 KS
  go_wp2_with fail
  refine (KT0.out _ B4.out).mono ?_
  rintro e w5 ⟨v5, rfl, s5, hb5⟩
  have B5 : Hid (Below w0.heap.size w0 w5) := B4.out.trans (hb5.mono B4.out.size)
  have S5 : Hid (SliceS w5 w4.heap.size v5 n f) := s5
  clear s5 hb5
  go_wp2_with fail
  refine (KT1.out _ B5.out).mono ?_
  rintro e w6 ⟨v6, rfl, s6, hb6⟩
  have B6 : Hid (Below w0.heap.size w0 w6) := B5.out.trans (hb6.mono B5.out.size)
  have S5_6 : Hid (SliceS w6 w4.heap.size v5 n f) := S5.out.below hb6
  have S6 : Hid (SliceT w6 w5.heap.size v6 L) := s6
  clear s6 hb6 S5
  go_wp2_with fail
  refine (KI.out _ _ _ _ _ B6.out S5_6.out S6.out).mono ?_
  rintro e w7 ⟨rfl, hb7⟩
  have B7 : Hid (Below w0.heap.size w0 w7) := B6.out.trans (hb7.mono B6.out.size)
  have S5_7 : Hid (SliceS w7 w4.heap.size v5 n f) := S5_6.out.below hb7
  have S6_7 : Hid (SliceT w7 w5.heap.size v6 L) := S6.out.below hb7
  clear hb7 S5_6 S6 KI
  cases d
  all_goals
    go_wp2_with fail
    refine (KT0.out _ B7.out).mono ?_
    rintro e w8 ⟨v8, rfl, s8, hb8⟩
    have B8 : Hid (Below w0.heap.size w0 w8) := B7.out.trans (hb8.mono B7.out.size)
    have S5_8 := S5_7.out.below hb8
    have S6_8 : Hid (SliceT w8 w5.heap.size v6 L) := S6_7.out.below hb8
    clear hb8
    go_wp2_with fail
    refine (eqStringS_any v5 v8 n _ _ f _ S5_8 s8 (by omega)).mono ?_
    rintro e w9 ⟨rfl, hb9⟩
    have B9 : Hid (Below w0.heap.size w0 w9) := B8.out.trans (hb9.mono B8.out.size)
    have S6_9 : Hid (SliceT w9 w5.heap.size v6 L) := S6_8.out.below hb9
    clear hb9 S5_8 s8
    go_wp2_with fail
    refine (KT1.out _ B9.out).mono ?_
    rintro e w10 ⟨v10, rfl, s10, hb10⟩
    have B10 : Hid (Below w0.heap.size w0 w10) := B9.out.trans (hb10.mono B9.out.size)
    have S6_10 : Hid (SliceT w10 w5.heap.size v6 L) := S6_9.out.below hb10
    clear hb10
    go_wp2_with fail
    refine (KE1.out _ _ _ _ _ S6_10.out s10).mono ?_
    rintro e w11 ⟨rfl, hb11⟩
    go_wp2
    go_ret
    exact ⟨rfl, B10.out.trans (hb11.mono B10.out.size)⟩
end Go.Proofs.YtfoekelhcmlagaaDoor

/- The walks of the program's placeOf and Related. -/
namespace Go.Proofs.YtfoekelhcmlagaaDoor
open Go.RowKit Go.Maps

theorem cutHttps_call (s : ByteArray) (w : World) : Calls Tryd.prog 85 #[.string s, .string ⟨#[104, 116, 116, 112, 115, 58, 47, 47]⟩] w fun e w' => (∃ t, e = .returned (.tuple #[.string t, .bool (Lib.hasPrefix s.data.toList httpsT.data.toList)]) ∧ (Lib.hasPrefix s.data.toList httpsT.data.toList = true → t = s.extract 8 s.size)) ∧ w' = w := by
  refine (Any.strings_CutPrefix Tryd.lays103 s httpsT w).mono ?_
  rintro e w' ⟨rfl, rfl⟩
  exact ⟨⟨_, rfl, fun h => trim_rest h⟩, rfl⟩
set_option maxRecDepth 10000 in
set_option maxHeartbeats 4000000 in
theorem placeOf5_any (b bm N : Nat) (L : List SetL) (s : ByteArray) (w : World) (hb2 : w.cell? ⟨b, 2, none⟩ = some (.map (some bm))) (hm : MapIs w bm N (plOf L L.length)) (hs : s.size ≤ 1048576) :
    Calls Tryd.prog 99 #[.pointer (some ⟨b, 0, none⟩), .string s] w fun e w' => (∃ c : Int, e = .returned (.tuple #[.int .i64 c, .bool (plA L s).isSome]) ∧ ∀ i, plA L s = some i → c = (i : Int)) ∧ w' = w := by
  have KC : Hid (Calls Tryd.prog 85 #[.string s, .string ⟨#[104, 116, 116, 112, 115, 58, 47, 47]⟩] w fun e w' => (∃ t, e = .returned (.tuple #[.string t, .bool (Lib.hasPrefix s.data.toList httpsT.data.toList)]) ∧ (Lib.hasPrefix s.data.toList httpsT.data.toList = true → t = s.extract 8 s.size)) ∧ w' = w) := cutHttps_call s w
  have HA : Hid (plA L s = if Lib.hasPrefix s.data.toList httpsT.data.toList = true then plOf L L.length (s.extract 8 s.size) else none) := rfl
  have hz : (s.extract 8 s.size).size ≤ maxLen := by rw [ByteArray.size_extract]; unfold maxLen; omega
  have HZ : Hid ((s.extract 8 s.size).size ≤ maxLen) := hz
  clear hz
  obtain ⟨DD, hown, hview⟩ := hm
  have HV := hview (s.extract 8 s.size)
  have HV1 : Hid (Maps.has DD (.string (s.extract 8 s.size).data.toList) = (plOf L L.length (s.extract 8 s.size)).isSome) := HV.1
  have HV2 : Hid (∀ p, plOf L L.length (s.extract 8 s.size) = some p → DD.atKey (.string (s.extract 8 s.size).data.toList) (.lit (.int .i64 0)) = .lit (.int .i64 (p : Int))) := HV.2
  have HOW : Hid (w.ownsMap Tryd.prog 9 (plainElem Tryd.prog 3) bm N DD) := hown
  clear hown hview HV
  generalize plA L s = P at *
  generalize plOf L L.length (s.extract 8 s.size) = Q at *
  generalize Lib.hasPrefix s.data.toList httpsT.data.toList = hp at *
  go_enter Tryd.func99, Tryd.ntmps99
  go_wp2_with fail
  refine KC.out.mono ?_
  rintro e w1 ⟨⟨t, rfl, ht⟩, rfl⟩
  cases hp with
  | false =>
    have HP : Hid (P = none) := HA.out
    clear ht
    go_wp2
    go_ret2
    exact ⟨⟨0, by rw [HP.out]; rfl, fun i hi => by rw [HP.out] at hi; cases hi⟩, rfl⟩
  | true =>
    have HP : Hid (P = Q) := HA.out
    obtain rfl := ht rfl
    generalize s.extract 8 s.size = d at *
    have hh := HV1.out
    generalize hq : Q.isSome = qs at *
    go_wp2_with (at_lookup; go_must (refine wpList_lookup_own_ok_int _ rfl _ _ 105 rfl 9 3 .i64 strKeyed Tryd.underlying105 Tryd.underlying3 (zeroI _) bm N DD rfl HOW.out _ _ rfl (Go.WideMaps.keyOf_string_mk Tryd.underlying9 HZ.out) ?_); intro c hat hwc)
    have HC : Hid (∀ i, P = some i → c = (i : Int)) := fun i hi => by
      rw [HP.out] at hi
      have h2 := HV2.out i hi
      rw [hat] at h2
      injection h2 with h2
      injection h2
    go_ret2
    exact ⟨⟨c, by rw [HP.out, hq]; rfl, HC.out⟩, rfl⟩
set_option maxRecDepth 10000 in
set_option maxHeartbeats 4000000 in
theorem related_any (rv lv : Value) (n B B' : Nat) (f : Nat → ByteArray) (L : List SetL) (a b : ByteArray) (w : World) (hG : MaxI w) (hE : ErrsI w) (hr : SliceS w B rv n f) (l1 : n ≤ 1048576) (hf : ∀ i, i < n → (f i).size ≤ 1048576) (hs : SliceT w B' lv L) (hn : L.length ≤ 1048576) (hz : ∀ j, j < L.length → szS (atS L j)) (ha : a.size ≤ 1048576) (hb : b.size ≤ 1048576) :
    Calls Tryd.prog 46 #[rv, lv, .string a, .string b] w fun e w' => e = .returned (.bool (relatedB n f L a b)) ∧ Below w.heap.size w w' := by
  have KB : Hid (Calls Tryd.prog 95 #[rv, lv] w fun e w' => ((setsB n f L = true ∧ ∃ v, e = .returned (.tuple #[v, .nilIface]) ∧ BookIs w' w.heap.size v rv L) ∨ (setsB n f L = false ∧ ∃ ty v, e = .returned (.tuple #[.agg #[.slice none 0 0, .slice none 0 0, .map none], .iface ty v]))) ∧ Below w.heap.size w w') := bookOf_any rv lv n B B' f L w hG hE hr l1 hf hs hn hz
  have KD : Hid (∀ W, Below w.heap.size w W → Calls Tryd.prog 103 #[rv, .string (a.extract 8 a.size)] W fun e w' => e = .returned (.bool (domR n f (a.extract 8 a.size))) ∧ Below W.heap.size W w') := fun W hb => domainRight_any rv n B f _ W (hG.on hb) (hr.below hb) l1 hf (by rw [ByteArray.size_extract]; omega)
  have HE : Hid (relatedB n f L a b = (setsB n f L && relB n f L a b)) := rfl
  have HR : Hid (setsB n f L = true → relB n f L a b = relI n f L a b) := fun h => (relI_right h a b).symm
  have HI1 : Hid ((a.toList == b.toList) = true → relI n f L a b = (Lib.hasPrefix a.data.toList httpsT.data.toList && domR n f (a.extract 8 a.size))) := fun h => relI_one h
  have HI2 : Hid ((a.toList == b.toList) = false → (∀ i j, plA L a = some i → plA L b = some j → relI n f L a b = (i == j)) ∧ (plA L a = none → relI n f L a b = false) ∧ (plA L b = none → relI n f L a b = false)) := fun h => ⟨fun i j h1 h2 => relI_two h h1 h2, fun h1 => relI_noA h h1, fun h2 => relI_noB h h2⟩
  obtain ⟨rp, rc, rfl, -⟩ := hr
  obtain ⟨uu, ⟨lp, lc, rfl, -⟩, -⟩ := hs
  clear hG hE hf hz
  generalize relatedB n f L a b = R at *
  generalize relB n f L a b = rb at *
  generalize relI n f L a b = ri at *
  generalize hss : setsB n f L = ss at *
  clear hss
  go_enter Tryd.func46, Tryd.ntmps46
  go_wp2_with fail
  refine KB.out.mono ?_
  rintro e w1 ⟨⟨rfl, v, rfl, hbk⟩ | ⟨rfl, ty, v, rfl⟩, hb1⟩
  case inr =>
    have HQ : Hid (R = false) := by show _ = _; rw [HE.out]; rfl
    have B1 : Hid (∀ o, Below w.heap.size w (w1.alloc o)) := fun o => hb1.alloc hb1.size o
    clear hb1
    go_wp2
    go_ret
    exact ⟨ret_bool HQ.out.symm, B1.out _⟩
  case inl =>
    obtain ⟨B1, bb, bm, T, sv, -, rfl, -, hk, hm⟩ := hbk
    obtain ⟨sp, sc, rfl⟩ := bookR_slice hk
    have HQ0 : Hid (R = ri) := by show _ = _; rw [HE.out, ← HR.out rfl]; rfl
    obtain ⟨W2, hW⟩ : ∃ W2, W2 = w1.alloc (.cells #[.slice rp n rc, .slice sp T.length sc, .map (some bm)] 107) := ⟨_, rfl⟩
    have hW2 : Hid (W2 = w1.alloc (.cells #[.slice rp n rc, .slice sp T.length sc, .map (some bm)] 107)) := hW
    have BW : Hid (Below w.heap.size w W2) := by show Below _ _ _; rw [hW]; exact hb1.alloc hb1.size _
    have M2 : Hid (MapIs W2 bm 30 (plOf L L.length)) := by show MapIs _ _ _ _; rw [hW]; exact hm.below ((Below.refl _ _).alloc (Nat.le_refl _) _)
    have c2 : W2.cell? ⟨w1.heap.size, 2, none⟩ = some (.map (some bm)) := by rw [hW]; simp
    have KA : Hid (Calls Tryd.prog 99 #[.pointer (some ⟨w1.heap.size, 0, none⟩), .string a] W2 fun e w' => (∃ c : Int, e = .returned (.tuple #[.int .i64 c, .bool (plA L a).isSome]) ∧ ∀ i, plA L a = some i → c = (i : Int)) ∧ w' = W2) := placeOf5_any w1.heap.size bm 30 L a W2 c2 M2.out ha
    have KP : Hid (Calls Tryd.prog 99 #[.pointer (some ⟨w1.heap.size, 0, none⟩), .string b] W2 fun e w' => (∃ c : Int, e = .returned (.tuple #[.int .i64 c, .bool (plA L b).isSome]) ∧ ∀ i, plA L b = some i → c = (i : Int)) ∧ w' = W2) := placeOf5_any w1.heap.size bm 30 L b W2 c2 M2.out hb
    have KC : Hid (Calls Tryd.prog 85 #[.string a, .string ⟨#[104, 116, 116, 112, 115, 58, 47, 47]⟩] W2 fun e w' => (∃ t, e = .returned (.tuple #[.string t, .bool (Lib.hasPrefix a.data.toList httpsT.data.toList)]) ∧ (Lib.hasPrefix a.data.toList httpsT.data.toList = true → t = a.extract 8 a.size)) ∧ w' = W2) := cutHttps_call a W2
    have KD2 : Hid (Calls Tryd.prog 103 #[.slice rp n rc, .string (a.extract 8 a.size)] W2 fun e w' => e = .returned (.bool (domR n f (a.extract 8 a.size))) ∧ Below W2.heap.size W2 w') := KD.out W2 BW.out
    clear hW hk hm hb1 KB KD HR HE
    go_upto_region 2 with fail
    rw [← hW2.out]
    clear hW2
    cases hab : (a.toList == b.toList) with
    | true =>
      have HI : Hid (ri = (Lib.hasPrefix a.data.toList httpsT.data.toList && domR n f (a.extract 8 a.size))) := HI1.out hab
      clear HI1 HI2 KA KP
      generalize Lib.hasPrefix a.data.toList httpsT.data.toList = hp at *
      generalize domR n f (a.extract 8 a.size) = bd at *
      go_wp2_with fail
      refine KC.out.mono ?_
      rintro e w3 ⟨⟨t, rfl, ht⟩, rfl⟩
      cases hp with
      | false =>
        clear ht
        go_wp2
        go_ret
        exact ⟨ret_bool (by rw [HQ0.out, HI.out]; rfl), BW.out⟩
      | true =>
        obtain rfl := ht rfl
        clear ht
        go_wp2_with fail
        refine KD2.out.mono ?_
        rintro e w4 ⟨rfl, hb4⟩
        go_wp2
        go_ret
        exact ⟨ret_bool (by rw [HQ0.out, HI.out]; rfl), BW.out.trans (hb4.mono BW.out.size)⟩
    | false =>
      obtain ⟨h1, h2, h3⟩ := HI2.out hab
      have HA : Hid (∀ i j, plA L a = some i → plA L b = some j → ri = (i == j)) := h1
      have HB1 : Hid (plA L a = none → ri = false) := h2
      have HB2 : Hid (plA L b = none → ri = false) := h3
      clear h1 h2 h3 HI1 HI2 KC KD2
      generalize plA L a = pa at *
      generalize plA L b = pb at *
      go_wp2_with fail
      refine KA.out.mono ?_
      rintro e w3 ⟨⟨ca, rfl, hca⟩, rfl⟩
      go_wp2_with fail
      refine KP.out.mono ?_
      rintro e w4 ⟨⟨cb, rfl, hcb⟩, rfl⟩
      cases pa with
      | none =>
        have HQ : Hid (ri = false) := HB1.out rfl
        clear hca hcb
        go_wp2
        go_ret
        exact ⟨ret_bool (by rw [HQ0.out, HQ.out]), BW.out⟩
      | some i =>
        have hci : ca = (i : Int) := hca i rfl
        cases pb with
        | none =>
          have HQ : Hid (ri = false) := HB2.out rfl
          clear hca hcb hci
          go_wp2
          go_ret
          exact ⟨ret_bool (by rw [HQ0.out, HQ.out]), BW.out⟩
        | some j =>
          have hcj : cb = (j : Int) := hcb j rfl
          have HQ : Hid (ri = (i == j)) := HA.out i j rfl rfl
          subst hci hcj
          have HX : Hid (((i : Int) == (j : Int)) = (i == j)) := by show _ = _; rw [Bool.eq_iff_iff, beq_iff_eq, beq_iff_eq]; omega
          clear hca hcb
          go_wp2
          go_ret
          exact ⟨ret_bool (by rw [HQ0.out, HQ.out, HX.out]), BW.out⟩
end Go.Proofs.YtfoekelhcmlagaaDoor

/- The walk of the program's SetOf. -/
namespace Go.Proofs.YtfoekelhcmlagaaDoor
open Go.RowKit Go.Maps

/-- of a book: the set at a place -/
theorem book_at {w : World} {B0 b bm : Nat} {rv sv : Value} {T : List (SetL × Value)} {L : List SetL} (h : BookR w B0 b bm rv T sv) (hT : T.map Prod.fst = L) {i : Nat} (hi : i < L.length) :
    ∃ g c u, sv = .slice (some ⟨g, 0, none⟩) L.length c ∧ B0 ≤ g ∧ g < w.heap.size ∧ w.cell? ⟨g, i * 2, none⟩ = some (.string (atS L i).1) ∧ w.cell? ⟨g, i * 2 + 1, none⟩ = some u ∧ SliceS w B0 u (atS L i).2.length (atL (atS L i).2) ∧ 0 < (atS L i).2.length := by
  have hl : T.length = L.length := by rw [← hT, List.length_map]
  have hiT : i < T.length := by omega
  have e1 : (T[i]'hiT).1 = atS L i := by
    subst hT
    simp [atS, hiT]
  obtain ⟨h1, h2⟩ := setCs_at T i hiT
  have hm := h.mem _ (List.getElem_mem hiT)
  have hlt := h.own.lt
  have hcl := fun g (hg : sv.ownBlock = some g) => h.own.cells hg
  obtain ⟨_, ⟨rfl, h0⟩ | ⟨g, cap, cur, rfl, hB, _⟩⟩ := h.own
  · omega
  · have c1 := hcl g rfl _ _ h1
    have c2 := hcl g rfl _ _ h2
    rw [Addr.add_lit, Nat.zero_add] at c1 c2
    rw [e1] at c1
    refine ⟨g, cap, (T[i]'hiT).2, by rw [hl], hB, (hlt g rfl).2, c1, c2, ?_, ?_⟩
    · rw [← e1]; exact hm.1
    · rw [← e1]; exact hm.2.1
set_option maxRecDepth 10000 in
set_option maxHeartbeats 4000000 in
theorem setOf_any (rv lv : Value) (n B B' : Nat) (f : Nat → ByteArray) (L : List SetL) (s : ByteArray) (w : World) (hG : MaxI w) (hE : ErrsI w) (hr : SliceS w B rv n f) (l1 : n ≤ 1048576) (hf : ∀ i, i < n → (f i).size ≤ 1048576) (hs : SliceT w B' lv L) (hn : L.length ≤ 1048576) (hz : ∀ j, j < L.length → szS (atS L j)) (hsz : s.size ≤ 1048576) :
    Calls Tryd.prog 39 #[rv, lv, .string s] w fun e w' => ∃ u, e = .returned (.agg #[.string (setOfL n f L s).1, u]) ∧ SliceS w' w.heap.size u (setOfL n f L s).2.length (atL (setOfL n f L s).2) ∧ Below w.heap.size w w' := by
  have KB : Hid (∀ W, Below w.heap.size w W → Calls Tryd.prog 95 #[rv, lv] W fun e w' => ((setsB n f L = true ∧ ∃ v, e = .returned (.tuple #[v, .nilIface]) ∧ BookIs w' W.heap.size v rv L) ∨ (setsB n f L = false ∧ ∃ ty v, e = .returned (.tuple #[.agg #[.slice none 0 0, .slice none 0 0, .map none], .iface ty v]))) ∧ Below W.heap.size W w') := fun W hb => bookOf_any rv lv n B B' f L W (hG.on hb) (hE.below hb) (hr.below hb) l1 hf (hs.below hb) hn hz
  have HNo : Hid (setsB n f L = false → setOfL n f L s = (⟨#[]⟩, [])) := fun h => setOfL_no h
  have HNone : Hid (setsB n f L = true → plA L s = none → setOfL n f L s = (⟨#[]⟩, [])) := fun h h2 => setOfL_none h h2
  have HSome : Hid (setsB n f L = true → ∀ i, plA L s = some i → i < L.length ∧ setOfL n f L s = atS L i) := fun h i h2 => setOfL_some h h2
  obtain ⟨rp, rc, rfl, -⟩ := hr
  obtain ⟨uu, ⟨lp, lc, rfl, -⟩, -⟩ := hs
  clear hf hz hG hE
  generalize setOfL n f L s = R at *
  generalize setsB n f L = ss at *
  obtain ⟨W0, hW⟩ : ∃ W0, W0 = w.alloc (.cells #[.string ⟨#[]⟩, .slice none 0 0] 47) := ⟨_, rfl⟩
  have hW0 : Hid (W0 = w.alloc (.cells #[.string ⟨#[]⟩, .slice none 0 0] 47)) := hW
  have HB0 : Hid (Below w.heap.size w W0) := by show Below _ _ _; rw [hW]; exact (Below.refl _ _).alloc (Nat.le_refl _) _
  have z0 : w.heap.size < W0.heap.size := by rw [hW]; simp
  have a0 : W0.cell? ⟨w.heap.size, 0, none⟩ = some (.string ⟨#[]⟩) := by rw [hW]; simp
  have a1 : W0.cell? ⟨w.heap.size, 1, none⟩ = some (.slice none 0 0) := by rw [hW]; simp
  have f0 : W0.frozen? ⟨w.heap.size, 0, none⟩ = false := by rw [hW]; simp
  have f1 : W0.frozen? ⟨w.heap.size, 1, none⟩ = false := by rw [hW]; simp
  clear hW
  have KN : Hid (∀ wr : World, Below w.heap.size w wr → R = (⟨#[]⟩, []) → ∃ u, Ending.returned (.agg #[.string ⟨#[]⟩, .slice none 0 0]) = .returned (.agg #[.string R.1, u]) ∧ SliceS ((wr.setCell ⟨w.heap.size, 0, none⟩ (.string ⟨#[]⟩)).setCell ⟨w.heap.size, 1, none⟩ (.slice none 0 0)) w.heap.size u R.2.length (atL R.2) ∧ Below w.heap.size w ((wr.setCell ⟨w.heap.size, 0, none⟩ (.string ⟨#[]⟩)).setCell ⟨w.heap.size, 1, none⟩ (.slice none 0 0))) := fun wr hb e => ⟨.slice none 0 0, by rw [e], by rw [e]; exact ⟨none, 0, rfl, fun h => absurd h (by simp)⟩, (hb.setCell (Nat.le_refl _) _).setCell (Nat.le_refl _) _⟩
  go_enter Tryd.func39, Tryd.ntmps39
  go_upto_region 1 with fail
  rw [← hW0.out]
  clear hW0
  go_wp2_with fail
  refine (KB.out _ HB0.out).mono ?_
  rintro e w1 ⟨⟨rfl, v, rfl, hbk⟩ | ⟨rfl, ty, v, rfl⟩, hb1⟩
  case inr =>
    have HQ : Hid (R = (⟨#[]⟩, [])) := HNo.out rfl
    obtain ⟨W2, hW⟩ : ∃ W2, W2 = w1.alloc (.cells #[.slice none 0 0, .slice none 0 0, .map none] 107) := ⟨_, rfl⟩
    have hW2 : Hid (W2 = w1.alloc (.cells #[.slice none 0 0, .slice none 0 0, .map none] 107)) := hW
    have A2 : Hid (Below W0.heap.size W0 W2) := by show Below _ _ _; rw [hW]; exact hb1.alloc hb1.size _
    have B2 : Hid (Below w.heap.size w W2) := HB0.out.trans (A2.out.mono HB0.out.size)
    have r0 : W2.cell? ⟨w.heap.size, 0, none⟩ = some (.string ⟨#[]⟩) := ((bcell A2.out).1 _ _ z0).trans a0
    have r1 : W2.cell? ⟨w.heap.size, 1, none⟩ = some (.slice none 0 0) := ((bcell A2.out).1 _ _ z0).trans a1
    have g0 : W2.frozen? ⟨w.heap.size, 0, none⟩ = false := ((bcell A2.out).2 _ _ z0).trans f0
    have g1 : W2.frozen? ⟨w.heap.size, 1, none⟩ = false := ((bcell A2.out).2 _ _ z0).trans f1
    clear hW hb1 KB HNo HNone HSome
    go_upto_region 2 with fail
    rw [← hW2.out]
    clear hW2
    go_wp2
    exact bodyPost_ret (v := .agg #[.string ⟨#[]⟩, .slice none 0 0]) (by simp [results, Tryd.results39, go_sem, r0, r1]) rfl (KN.out _ B2.out HQ.out)
  case inl =>
    obtain ⟨B1, bb, bm, T, sv, hBB, rfl, hT, hk, hmap⟩ := hbk
    obtain ⟨sp, sc, rfl⟩ := bookR_slice hk
    obtain ⟨W2, hW⟩ : ∃ W2, W2 = w1.alloc (.cells #[.slice rp n rc, .slice sp T.length sc, .map (some bm)] 107) := ⟨_, rfl⟩
    have hW2 : Hid (W2 = w1.alloc (.cells #[.slice rp n rc, .slice sp T.length sc, .map (some bm)] 107)) := hW
    have b12 : Below w1.heap.size w1 W2 := by rw [hW]; exact (Below.refl _ _).alloc (Nat.le_refl _) _
    have A2 : Hid (Below W0.heap.size W0 W2) := by show Below _ _ _; rw [hW]; exact hb1.alloc hb1.size _
    have B2 : Hid (Below w.heap.size w W2) := HB0.out.trans (A2.out.mono HB0.out.size)
    have M2 : Hid (MapIs W2 bm 30 (plOf L L.length)) := hmap.below b12
    have K2 : Hid (BookR W2 B1 bb bm (.slice rp n rc) T (.slice sp T.length sc)) := hk.below b12
    have c1 : W2.cell? ⟨w1.heap.size, 1, none⟩ = some (.slice sp T.length sc) := by rw [hW]; simp
    have c2 : W2.cell? ⟨w1.heap.size, 2, none⟩ = some (.map (some bm)) := by rw [hW]; simp
    have r0 : W2.cell? ⟨w.heap.size, 0, none⟩ = some (.string ⟨#[]⟩) := ((bcell A2.out).1 _ _ z0).trans a0
    have r1 : W2.cell? ⟨w.heap.size, 1, none⟩ = some (.slice none 0 0) := ((bcell A2.out).1 _ _ z0).trans a1
    have g0 : W2.frozen? ⟨w.heap.size, 0, none⟩ = false := ((bcell A2.out).2 _ _ z0).trans f0
    have g1 : W2.frozen? ⟨w.heap.size, 1, none⟩ = false := ((bcell A2.out).2 _ _ z0).trans f1
    have z1 : w.heap.size < w1.heap.size := Nat.lt_of_lt_of_le z0 hb1.size
    have KP : Hid (Calls Tryd.prog 99 #[.pointer (some ⟨w1.heap.size, 0, none⟩), .string s] W2 fun e w' => (∃ c : Int, e = .returned (.tuple #[.int .i64 c, .bool (plA L s).isSome]) ∧ ∀ i, plA L s = some i → c = (i : Int)) ∧ w' = W2) := placeOf5_any w1.heap.size bm 30 L s W2 c2 M2.out hsz
    have HNone1 : Hid (plA L s = none → R = (⟨#[]⟩, [])) := HNone.out rfl
    have HSome1 : Hid (∀ i, plA L s = some i → i < L.length ∧ R = atS L i) := HSome.out rfl
    have HT : Hid (T.map Prod.fst = L) := hT
    have HBB : Hid (W0.heap.size ≤ B1) := hBB
    clear hW hk hmap hb1 KB HNo HNone HSome a0 a1 f0 f1 hT hBB b12
    go_upto_region 2 with fail
    rw [← hW2.out]
    clear hW2
    go_wp2_with fail
    refine KP.out.mono ?_
    rintro e w3 ⟨⟨c, rfl, hcc⟩, rfl⟩
    cases hp : plA L s with
    | none =>
      have HQ : Hid (R = (⟨#[]⟩, [])) := HNone1.out hp
      clear KP HSome1 hcc hp c1 c2
      go_wp2
      exact bodyPost_ret (v := .agg #[.string ⟨#[]⟩, .slice none 0 0]) (by simp [results, Tryd.results39, go_sem, r0, r1]) rfl (KN.out _ B2.out HQ.out)
    | some i =>
      obtain ⟨hi, hR⟩ := HSome1.out i hp
      have HQ : Hid (R = atS L i) := hR
      obtain rfl : c = (i : Int) := hcc i hp
      obtain ⟨g, cc, u, e, hBg, hgw, d0, d1, hsu, hpos⟩ := book_at K2.out HT.out hi
      rw [e] at c1
      have i0 : (0 : Int) ≤ i := by omega
      have i1 : (i : Int) < L.length := by omega
      have hne : ¬ w.heap.size = g := by have := HBB.out; omega
      have SL : Hid (∀ a b, SliceS ((w3.setCell ⟨w.heap.size, 0, none⟩ a).setCell ⟨w.heap.size, 1, none⟩ b) w.heap.size u (atS L i).2.length (atL (atS L i).2)) := fun a b => by
        obtain ⟨gv, ev, hv, -⟩ := hsu.place hpos
        have n2 : 0 < (atS L i).2.length → u.ownBlock ≠ some w.heap.size := fun _ h => by rw [ev] at h; have := Option.some.inj h; have := HBB.out; omega
        exact SliceS.mono ((hsu.setFar n2).setFar n2) (by have := HBB.out; omega)
      obtain ⟨up, uc, rfl, -⟩ := hsu
      clear KP HSome1 HNone1 hcc hp KN e hR c2 M2 K2
      generalize atS L i = y at *
      obtain ⟨yp, yM⟩ := y
      dsimp only at d0 d1 hpos
      go_wp2
      exact bodyPost_ret (v := .agg #[.string yp, .slice up yM.length uc]) (by simp [results, Tryd.results39, go_sem, r0, r1]) rfl ⟨.slice up yM.length uc, by rw [HQ.out], by rw [HQ.out]; exact SL.out _ _, (B2.out.setCell (Nat.le_refl _) _).setCell (Nat.le_refl _) _⟩
end Go.Proofs.YtfoekelhcmlagaaDoor

/- The laws' markStringS and markSiteSetS over arguments, by shape alone: which blocks they write, and that a text's cell stays a text's cell. -/
namespace Go.Proofs.YtfoekelhcmlagaaDoor
open Go.RowKit

/-- w' came of w by runs that write no block, and by texts put into cells of texts of the blocks from B to E -/
inductive MarkOn (B E : Nat) (w : World) : World → Prop
  | refl : MarkOn B E w w
  | on {w1 w2 : World} : MarkOn B E w w1 → Below w1.heap.size w1 w2 → MarkOn B E w w2
  | put {w1 : World} (b o : Nat) (s t : ByteArray) : MarkOn B E w w1 → B ≤ b → b < E → w1.cell? ⟨b, o, none⟩ = some (.string s) → MarkOn B E w (w1.setCell ⟨b, o, none⟩ (.string t))
theorem MarkOn.trans {B E : Nat} {w w1 w2 : World} (h : MarkOn B E w w1) (h2 : MarkOn B E w1 w2) : MarkOn B E w w2 := by
  induction h2 with
  | refl => exact h
  | on _ hb ih => exact ih.on hb
  | put b o s t _ h1 h2 h3 ih => exact ih.put b o s t h1 h2 h3
theorem MarkOn.size {B E : Nat} {w w' : World} (h : MarkOn B E w w') : w.heap.size ≤ w'.heap.size := by
  induction h with
  | refl => exact Nat.le_refl _
  | on _ hb ih => exact Nat.le_trans ih hb.size
  | put b o s t _ _ _ _ ih => simpa [World.setCell] using ih
theorem MarkOn.low {B E : Nat} {w w' : World} (h : MarkOn B E w w') {B' : Nat} (h1 : B' ≤ B) (h2 : B' ≤ w.heap.size) : Below B' w w' := by
  induction h with
  | refl => exact Below.refl _ _
  | on hm hb ih => exact ih.trans (hb.mono (Nat.le_trans h2 hm.size))
  | put b o s t _ hB _ _ ih => exact ih.setCell (by simpa using Nat.le_trans h1 hB) _
/-- a slice of texts outside -/
theorem SliceS.out {w w' : World} {B E B0 n : Nat} {v : Value} {f : Nat → ByteArray} (h : SliceS w B0 v n f) (hm : MarkOn B E w w') (hp : 0 < n → ∀ g, v.ownBlock = some g → g < B ∨ E ≤ g) : SliceS w' B0 v n f := by
  induction hm with
  | refl => exact h
  | on _ hb ih => exact ih.below hb
  | put b o s t _ hB hE _ ih =>
    refine ih.setFar (fun hn e => ?_)
    have := hp hn b e
    omega
/-- one inside: still one of texts -/
theorem SliceS.within {w w' : World} {B E B0 n : Nat} {v : Value} {f : Nat → ByteArray} (h : SliceS w B0 v n f) (hm : MarkOn B E w w') : ∃ f', SliceS w' B0 v n f' := by
  induction hm with
  | refl => exact ⟨f, h⟩
  | on _ hb ih => obtain ⟨f', h'⟩ := ih; exact ⟨f', h'.below hb⟩
  | put b o s t _ hB hE hc ih =>
    obtain ⟨f', p, cap, rfl, h'⟩ := ih
    refine ⟨fun j => if (0 < n → p = some ⟨b, 0, none⟩) ∧ j = o then t else f' j, p, cap, rfl, fun hn => ?_⟩
    obtain ⟨g, rfl, h1, h2, h3⟩ := h' hn
    refine ⟨g, rfl, h1, by simpa [World.setCell] using h2, fun j hj => ⟨?_, ?_⟩⟩
    · dsimp only
      by_cases e : g = b ∧ j = o
      · obtain ⟨rfl, rfl⟩ := e
        rw [if_pos ⟨fun _ => rfl, rfl⟩]
        exact World.cell?_setCell_same _ _ _ hc
      · rw [if_neg (by
          rintro ⟨e1, e2⟩
          have e3 := Option.some.inj (e1 hn)
          injection e3 with e4
          exact e ⟨e4, e2⟩)]
        rw [World.cell?_setCell_other _ _ _ _ (by intro h; injection h with h1 h2; exact e ⟨h1.symm, h2.symm⟩)]
        exact (h3 j hj).1
    · rw [World.frozen?_setCell]; exact (h3 j hj).2
/-- a slice of sets: of some texts; the j-th of m j members, which lie below E -/
def RowT (w : World) (B E : Nat) (v : Value) (n : Nat) (m : Nat → Nat) : Prop :=
  ∃ (s : Nat → ByteArray) (u : Nat → Value), SliceR w B 2 v n (fun j o => if o = 0 then .string (s j) else u j) ∧ ∀ j, j < n → (∃ f, SliceS w B (u j) (m j) f) ∧ (0 < m j → ∀ g, (u j).ownBlock = some g → g < E)
theorem rowT_of {w : World} {B E : Nat} {v : Value} {L : List SetL} (h : SliceT w B v L) (hE : w.heap.size ≤ E) : RowT w B E v L.length (fun j => (atS L j).2.length) := by
  obtain ⟨u, h1, h2, -⟩ := h
  exact ⟨fun j => (atS L j).1, u, h1, fun j hj => ⟨⟨_, h2 j hj⟩, fun h0 g e => by
    obtain ⟨g', e', -, h3, -⟩ := (h2 j hj).place h0
    rw [e'] at e
    have := Option.some.inj e
    omega⟩⟩
theorem SliceR.put2 {w : World} {B n b o : Nat} {v : Value} {s : Nat → ByteArray} {u : Nat → Value} {x t : ByteArray} (hu : ∀ j, j < n → ∃ p l c, u j = .slice p l c) (h : SliceR w B 2 v n (fun j o => if o = 0 then .string (s j) else u j)) (hc : w.cell? ⟨b, o, none⟩ = some (.string x)) :
    ∃ s' : Nat → ByteArray, SliceR (w.setCell ⟨b, o, none⟩ (.string t)) B 2 v n (fun j o => if o = 0 then .string (s' j) else u j) := by
  obtain ⟨p, cap, rfl, h'⟩ := h
  refine ⟨fun j => if (0 < n → p = some ⟨b, 0, none⟩) ∧ j * 2 = o then t else s j, p, cap, rfl, fun hn => ?_⟩
  obtain ⟨g, rfl, h1, h2, h3⟩ := h' hn
  refine ⟨g, rfl, h1, by simpa [World.setCell] using h2, fun j hj k hk => ⟨?_, ?_⟩⟩
  · have hcj := (h3 j hj k hk).1
    dsimp only at hcj ⊢
    by_cases e : g = b ∧ j * 2 + k = o
    · obtain ⟨rfl, rfl⟩ := e
      match k, hk with
      | 0, _ =>
        rw [if_pos rfl, if_pos ⟨fun _ => rfl, rfl⟩]
        exact World.cell?_setCell_same _ _ _ hc
      | 1, _ =>
        obtain ⟨p', l, c, e⟩ := hu j hj
        rw [hc, if_neg (by decide), e] at hcj
        cases hcj
    · rw [World.cell?_setCell_other _ _ _ _ (by intro h; injection h with h1 h2; exact e ⟨h1.symm, h2.symm⟩), hcj]
      match k, hk with
      | 0, _ =>
        rw [if_pos rfl, if_pos rfl, if_neg (by
          rintro ⟨e1, e2⟩
          have e3 := Option.some.inj (e1 hn)
          injection e3 with e4
          exact e ⟨e4, e2⟩)]
      | 1, _ => rfl
  · rw [World.frozen?_setCell]; exact (h3 j hj k hk).2
theorem RowT.within {w w' : World} {B E B0 E0 n : Nat} {v : Value} {m : Nat → Nat} (h : RowT w B0 E0 v n m) (hm : MarkOn B E w w') : RowT w' B0 E0 v n m := by
  induction hm with
  | refl => exact h
  | on _ hb ih =>
    obtain ⟨s, u, h1, h2⟩ := ih
    exact ⟨s, u, SliceR.below h1 hb, fun j hj => by obtain ⟨⟨f, hf⟩, h3⟩ := h2 j hj; exact ⟨⟨f, hf.below hb⟩, h3⟩⟩
  | put b o x t hmm hB hE hc ih =>
    obtain ⟨s, u, h1, h2⟩ := ih
    obtain ⟨s', h3⟩ := SliceR.put2 (t := t) (fun j hj => by obtain ⟨⟨f, p, c, e, -⟩, -⟩ := h2 j hj; exact ⟨p, _, c, e⟩) h1 hc
    exact ⟨s', u, h3, fun j hj => by
      obtain ⟨⟨f, hf⟩, h4⟩ := h2 j hj
      exact ⟨hf.within (B := b) (E := b + 1) (MarkOn.put b o x t .refl (Nat.le_refl _) (by omega) hc), h4⟩⟩
theorem RowT.below {w w' : World} {B0 E0 n : Nat} {v : Value} {m : Nat → Nat} (h : RowT w B0 E0 v n m) (hb : Below w.heap.size w w') : RowT w' B0 E0 v n m := h.within (B := 0) (E := 0) (MarkOn.on .refl hb)
theorem sliceT_lt {w : World} {B : Nat} {v : Value} {L : List SetL} (h : SliceT w B v L) : 0 < L.length → ∀ g, v.ownBlock = some g → g < w.heap.size := by
  obtain ⟨u, ⟨p, c, rfl, h1⟩, -⟩ := h
  intro hn g e
  obtain ⟨g', rfl, -, h3, -⟩ := h1 hn
  obtain rfl : g' = g := Option.some.inj e
  exact h3
set_option maxRecDepth 10000 in
set_option maxHeartbeats 1000000 in
theorem markStr_on (a : Value) (n B E q : Nat) (f : Nat → ByteArray) (w : World) (ha : SliceS w B a n f) (hE : 0 < n → ∀ g, a.ownBlock = some g → g < E) (hn : n ≤ 1048576) (hq : 0 < q) (hq2 : q ≤ 4611686018427387904) :
    Calls Tryd.prog 41 #[a, .int .i64 (q : Int)] w fun e w' => e = .returned (.int .i64 ((q + n : Nat) : Int)) ∧ MarkOn B E w w' := by
  obtain ⟨p, cap, rfl, h1⟩ := ha
  have HG : Hid (0 < n → ∃ g, p = some ⟨g, 0, none⟩ ∧ B ≤ g ∧ g < E) := fun h => by
    obtain ⟨g, e, h2, h3, -⟩ := h1 h
    exact ⟨g, e, h2, hE h g (by rw [e]; rfl)⟩
  clear hE
  have HS0 : Hid (∃ f', SliceS w B (.slice p n cap) n f') := ⟨f, p, cap, rfl, h1⟩
  clear h1
  have HM : Hid (∀ (m : Nat) (W : World), 0 < m → m ≤ 9223372036854775807 → Calls Tryd.prog 100 #[.int .i64 (m : Int)] W fun e w' => e = .returned (.string (markT m)) ∧ Below W.heap.size W w') := fun m W h1 h2 => markText_any m W h1 h2
  go_enter Tryd.func41, Tryd.ntmps41
  go_wp2
  go_loopw [1, 5] (fun kk i wr => ∃ k : Nat, k ≤ n ∧ i = .int .i64 k ∧ kk = .int .i64 ((q + k : Nat) : Int) ∧ Hid (MarkOn B E w wr) ∧ Hid (∃ f', SliceS wr B (.slice p n cap) n f')) (fun _ i _ => n - (intOf i).toNat)
  case atStart => exact ⟨0, by omega, rfl, rfl, .refl, HS0⟩
  case round =>
    obtain ⟨k, hk, rfl, rfl, HB, HR⟩ := hrel
    by_cases hlt : k < n
    · obtain ⟨g, rfl, hBg, hgw⟩ := HG.out (by omega)
      have k0 : (0 : Int) ≤ k := by omega
      have k1 : (k : Int) < (n : Int) := by omega
      have HN : Hid (∀ W, Calls Tryd.prog 100 #[.int .i64 ((q : Int) + (k : Int))] W fun e w' => e = .returned (.string (markT (q + k))) ∧ Below W.heap.size W w') := fun W => HM.out (q + k) W (by omega) (by omega)
      clear HM
      go_wp2_with fail
      refine (HN.out _).mono ?_
      rintro e w1 ⟨rfl, hb⟩
      obtain ⟨f', hf'⟩ := HR.out
      have hf1 := hf'.below hb
      obtain ⟨p', c', e', h4⟩ := id hf1
      injection e' with e1 e2 e3
      obtain ⟨g', e5, -, -, h6⟩ := h4 (by omega)
      rw [← e1] at e5
      injection e5 with e5
      injection e5 with e5
      subst e5
      have c1 := (h6 k hlt).1
      have c2 := (h6 k hlt).2
      have HB1 : Hid (MarkOn B E w (w1.setCell ⟨g, k, none⟩ (.string (markT (q + k))))) := (HB.out.on hb).put g k _ _ hBg (by omega) c1
      have HR1 : Hid (∃ f', SliceS (w1.setCell ⟨g, k, none⟩ (.string (markT (q + k)))) B (.slice (some ⟨g, 0, none⟩) n cap) n f') := hf1.within (B := g) (E := g + 1) (MarkOn.put g k _ _ .refl (Nat.le_refl _) (by omega) c1)
      clear hb hf' hf1 h4 h6 e1 e2 e3 HR HB HS0
      generalize markT (q + k) = t at *
      generalize f' k = x at *
      go_wp2
      go_roundw
      case rel => exact ⟨k + 1, by omega, by go_num, by go_num, HB1, HR1⟩
      case measure => simp [intOf]; omega
    · obtain rfl : k = n := by omega
      go_wp2
      go_ret
      exact ⟨rfl, HB.out⟩
set_option maxRecDepth 10000 in
set_option maxHeartbeats 1000000 in
theorem markSets_on (a : Value) (n B E q : Nat) (m : Nat → Nat) (w : World) (ha : RowT w B E a n m) (hE : 0 < n → ∀ g, a.ownBlock = some g → g < E) (hn : n ≤ 1048576) (hm : ∀ j, j < n → m j ≤ 1048576) (hq : 0 < q) (hq2 : q ≤ 2097152) :
    Calls Tryd.prog 42 #[a, .int .i64 (q : Int)] w fun e w' => (∃ r : Nat, e = .returned (.int .i64 (r : Int))) ∧ MarkOn B E w w' := by
  have HA : Hid (RowT w B E a n m) := ha
  have HMm : Hid (∀ j, j < n → m j ≤ 1048576) := hm
  clear hm
  obtain ⟨s, u, ⟨p, cap, rfl, h1⟩, -⟩ := ha
  have HG : Hid (0 < n → ∃ g, p = some ⟨g, 0, none⟩ ∧ B ≤ g ∧ g < E) := fun h => by
    obtain ⟨g, e, h2, h3, -⟩ := h1 h
    exact ⟨g, e, h2, hE h g (by rw [e]; rfl)⟩
  clear hE
  clear h1
  have HM : Hid (∀ (m : Nat) (W : World), 0 < m → m ≤ 9223372036854775807 → Calls Tryd.prog 100 #[.int .i64 (m : Int)] W fun e w' => e = .returned (.string (markT m)) ∧ Below W.heap.size W w') := fun m W h1 h2 => markText_any m W h1 h2
  go_enter Tryd.func42, Tryd.ntmps42
  go_wp2
  go_loopw [1, 5] (fun kk i wr => ∃ (k r : Nat), k ≤ n ∧ i = .int .i64 k ∧ kk = .int .i64 (r : Int) ∧ 0 < r ∧ r ≤ q + k * 1048577 ∧ Hid (MarkOn B E w wr) ∧ Hid (RowT wr B E (.slice p n cap) n m)) (fun _ i _ => n - (intOf i).toNat)
  case atStart => exact ⟨0, q, by omega, rfl, rfl, hq, by omega, .refl, HA⟩
  case round =>
    obtain ⟨k, r, hk, rfl, rfl, hr0, hr1, HB, HR⟩ := hrel
    by_cases hlt : k < n
    · obtain ⟨g, rfl, hBg, hgw⟩ := HG.out (by omega)
      have k0 : (0 : Int) ≤ k := by omega
      have k1 : (k : Int) < (n : Int) := by omega
      have hr2 : r ≤ 1099514773504 := by omega
      have HN : Hid (∀ W, Calls Tryd.prog 100 #[.int .i64 (r : Int)] W fun e w' => e = .returned (.string (markT r)) ∧ Below W.heap.size W w') := fun W => HM.out r W (by omega) (by omega)
      have hmk := HMm.out k hlt
      clear HM HA
      go_wp2_with fail
      refine (HN.out _).mono ?_
      rintro e w1 ⟨rfl, hb⟩
      have R1 : RowT w1 B E (.slice (some ⟨g, 0, none⟩) n cap) n m := HR.out.within (B := 0) (E := 0) (MarkOn.on .refl hb)
      obtain ⟨s1, u1, ⟨p', c', e', h4⟩, hu1⟩ := id R1
      injection e' with e1 e2 e3
      obtain ⟨g', e5, -, -, h6⟩ := h4 (by omega)
      rw [← e1] at e5
      injection e5 with e5
      injection e5 with e5
      subst e5
      have c1 : w1.cell? ⟨g, k * 2, none⟩ = some (.string (s1 k)) := (h6 k hlt 0 (by omega)).1
      have c2 : w1.frozen? ⟨g, k * 2, none⟩ = false := (h6 k hlt 0 (by omega)).2
      have c3 : w1.cell? ⟨g, k * 2 + 1, none⟩ = some (u1 k) := (h6 k hlt 1 (by omega)).1
      obtain ⟨⟨f1, hf1⟩, hlow⟩ := hu1 k hlt
      have M1 : MarkOn B E w (w1.setCell ⟨g, k * 2, none⟩ (.string (markT r))) := (HB.out.on hb).put g (k * 2) _ _ hBg (by omega) c1
      have P1 : MarkOn g (g + 1) w1 (w1.setCell ⟨g, k * 2, none⟩ (.string (markT r))) := .put g (k * 2) _ _ .refl (Nat.le_refl _) (by omega) c1
      obtain ⟨f2, hf2⟩ := hf1.within P1
      have R2 := R1.within P1
      obtain ⟨W2, hW⟩ : ∃ W2, W2 = w1.setCell ⟨g, k * 2, none⟩ (.string (markT r)) := ⟨_, rfl⟩
      have hW2 : Hid (W2 = w1.setCell ⟨g, k * 2, none⟩ (.string (markT r))) := hW
      have c4 : W2.cell? ⟨g, k * 2 + 1, none⟩ = some (u1 k) := by
        rw [hW, World.cell?_setCell_other _ _ _ _ (by intro h; injection h with _ h; omega)]; exact c3
      rw [← hW] at M1 hf2 R2
      obtain ⟨up, uc, hup, -⟩ := id hf2
      have KS0 : ∀ q' : Nat, 0 < q' → q' ≤ 4611686018427387904 → Calls Tryd.prog 41 #[u1 k, .int .i64 (q' : Int)] W2 fun e w' => e = .returned (.int .i64 ((q' + m k : Nat) : Int)) ∧ MarkOn B E W2 w' := fun q' a b => markStr_on (u1 k) (m k) B E q' f2 W2 hf2 hlow hmk a b
      have KS1 := KS0 (r + 1) (by omega) (by omega)
      rw [hup] at KS1 c4
      have KS : Hid (Calls Tryd.prog 41 #[.slice up (m k) uc, .int .i64 ((r : Int) + 1)] W2 fun e w' => e = .returned (.int .i64 ((r + 1 + m k : Nat) : Int)) ∧ MarkOn B E W2 w') := KS1
      have M2 : Hid (MarkOn B E w W2) := M1
      have RR2 : Hid (RowT W2 B E (.slice (some ⟨g, 0, none⟩) n cap) n m) := R2
      clear hb R1 R2 M1 P1 h4 h6 hu1 hf1 hf2 hlow hup KS0 KS1 c3 e1 e2 e3 HR HB hW
      generalize s1 k = x at *
      generalize markT r = t at *
      generalize m k = mk at *
      go_upto_region 5 with fail
      rw [← hW2.out]
      clear hW2 c1 c2
      go_wp2_with fail
      refine KS.out.mono ?_
      rintro e w3 ⟨rfl, hm3⟩
      have M3 : Hid (MarkOn B E w w3) := M2.out.trans hm3
      have R3 : Hid (RowT w3 B E (.slice (some ⟨g, 0, none⟩) n cap) n m) := RR2.out.within hm3
      clear hm3 c4
      go_wp2
      go_roundw
      case rel => exact ⟨k + 1, r + 1 + mk, by omega, by go_num, by go_num, by omega, by omega, M3, R3⟩
      case measure => simp [intOf]; omega
    · obtain rfl : k = n := by omega
      go_wp2
      go_ret
      exact ⟨⟨r, rfl⟩, HB.out⟩
end Go.Proofs.YtfoekelhcmlagaaDoor
