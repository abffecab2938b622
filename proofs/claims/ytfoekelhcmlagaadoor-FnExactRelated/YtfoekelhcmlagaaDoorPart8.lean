/- 9 of this claim's texts, one behind the other. -/
import Derived.Test.YtfoekelhcmlagaaDoorPart5
import Derived.Test.YtfoekelhcmlagaaDoorPart7
import Derived.Deep.DeepCutAuto
import Derived.Test.YtfoekelhcmlagaaDoorPart4
import Derived.Handed
import Derived.Lay
import Derived.MakeChecks
import Derived.Lib.LaidTab
import Derived.Stop.LaidErr
import Derived.Laws.IdiomArrays
import Derived.LaidLaws
import Derived.WalkSmall
import Derived.Carry
import Derived.ChangeVars
import Derived.OpenShut
/- Who is related: plain facts. -/
namespace Go.Proofs.YtfoekelhcmlagaaDoor
open Go.Maps

def httpsT : ByteArray := ⟨#[104, 116, 116, 112, 115, 58, 47, 47]⟩
/-- a site of a domain, by right rules -/
def siteQ (n : Nat) (f : Nat → ByteArray) (s : ByteArray) : Bool := decide (8 < s.size) && ((s.extract 0 8).toList == [104, 116, 116, 112, 115, 58, 47, 47]) && domB n f (s.extract 8 s.size)
def siteD (n : Nat) (f : Nat → ByteArray) (s : ByteArray) : ByteArray := if siteQ n f s = true then s.extract 8 s.size else ⟨#[]⟩
theorem siteD_yes {n : Nat} {f : Nat → ByteArray} {s : ByteArray} (h : siteQ n f s = true) : siteD n f s = s.extract 8 s.size := by unfold siteD; rw [if_pos h]
theorem siteD_no {n : Nat} {f : Nat → ByteArray} {s : ByteArray} (h : siteQ n f s = false) : siteD n f s = ⟨#[]⟩ := by unfold siteD; rw [if_neg (by rw [h]; decide)]
theorem siteQ_size {n : Nat} {f : Nat → ByteArray} {s : ByteArray} (h : siteQ n f s = true) : 8 < s.size ∧ s.size ≤ 108 ∧ domB n f (s.extract 8 s.size) = true := by
  unfold siteQ at h
  rw [Bool.and_eq_true, Bool.and_eq_true, decide_eq_true_eq] at h
  have := (domB_size h.2).2
  rw [ByteArray.size_extract] at this
  exact ⟨h.1.1, by omega, h.2⟩
theorem isEmpty_size (s : ByteArray) : s.toList.isEmpty = decide (s.size = 0) := by
  rw [Bool.eq_iff_iff, List.isEmpty_iff, decide_eq_true_eq, Lib.toList_data, Lib.size_eq, List.length_eq_zero_iff]
theorem siteD_empty (n : Nat) (f : Nat → ByteArray) (s : ByteArray) : (siteD n f s).toList.isEmpty = !(siteQ n f s) := by
  cases h : siteQ n f s with
  | false => rw [siteD_no h, Lib.toList_data]; rfl
  | true =>
    rw [siteD_yes h, isEmpty_size, ByteArray.size_extract, decide_eq_false (by have := siteQ_size h; omega)]; rfl
/-- the set of a domain -/
def ofS (L : List SetL) (d : ByteArray) : SetL := (L.find? (fun y => hasB y d)).getD (⟨#[]⟩, [])
theorem atS_get {L : List SetL} {k : Nat} (hk : k < L.length) : atS L k = L[k] := by simp [atS, hk]
theorem ofS_hit {L : List SetL} {d : ByteArray} {k : Nat} (hk : k < L.length) (h0 : ∀ j, j < k → hasB (atS L j) d = false) (h : hasB (atS L k) d = true) : ofS L d = atS L k := by
  unfold ofS
  have e : L.find? (fun y => hasB y d) = some L[k] := by
    rw [List.find?_eq_some_iff_getElem]
    refine ⟨by rw [← atS_get hk]; exact h, k, hk, rfl, fun j hj => ?_⟩
    rw [← atS_get (show j < L.length by omega), h0 j hj]; rfl
  rw [e, atS_get hk]; rfl
theorem ofS_none {L : List SetL} {d : ByteArray} (h : ∀ j, j < L.length → hasB (atS L j) d = false) : ofS L d = (⟨#[]⟩, []) := by
  unfold ofS
  have e : L.find? (fun y => hasB y d) = none := by
    rw [List.find?_eq_none]
    intro y hy
    obtain ⟨k, hk, rfl⟩ := List.mem_iff_getElem.1 hy
    rw [← atS_get hk, h k hk]; decide
  rw [e]; rfl
/-- related, of right sets -/
def relB (n : Nat) (f : Nat → ByteArray) (L : List SetL) (a b : ByteArray) : Bool := siteQ n f a && siteQ n f b && (((siteD n f a).toList == (siteD n f b).toList) || hasB (ofS L (siteD n f a)) (siteD n f b))
def relatedB (n : Nat) (f : Nat → ByteArray) (L : List SetL) (a b : ByteArray) : Bool := setsB n f L && relB n f L a b
theorem relatedB_long {n : Nat} {f : Nat → ByteArray} {L : List SetL} {a b : ByteArray} (h : 400 < L.length ∨ 8000 < a.size ∨ 8000 < b.size) : relatedB n f L a b = false := by
  unfold relatedB relB
  rcases h with h | h | h
  · have : setsB n f L = false := by
      unfold setsB
      rw [decide_eq_false (p := L.length ≤ 6) (by omega), Bool.and_false, Bool.false_and]
    rw [this]; rfl
  · have : siteQ n f a = false := by
      cases e : siteQ n f a with
      | false => rfl
      | true => have := siteQ_size e; omega
    rw [this]; simp
  · have : siteQ n f b = false := by
      cases e : siteQ n f b with
      | false => rfl
      | true => have := siteQ_size e; omega
    rw [this]; simp
/-- the place of a site's set -/
def plA (L : List SetL) (s : ByteArray) : Option Nat := if Lib.hasPrefix s.data.toList httpsT.data.toList = true then plOf L L.length (s.extract 8 s.size) else none
/-- what the program asks -/
def relI (n : Nat) (f : Nat → ByteArray) (L : List SetL) (a b : ByteArray) : Bool :=
  if (a.toList == b.toList) = true then Lib.hasPrefix a.data.toList httpsT.data.toList && domR n f (a.extract 8 a.size)
  else match plA L a, plA L b with
    | some i, some j => i == j
    | _, _ => false
theorem plOf_inv (L : List SetL) (x : ByteArray) : ∀ k i, plOf L k x = some i → i < k ∧ hasB (atS L i) x = true
  | 0, _, h => by cases h
  | k + 1, i, h => by
    have h' : plTo (plOf L k) k (allD (atS L k)) (allD (atS L k)).length x = some i := h
    by_cases he : ∃ j, j < (allD (atS L k)).length ∧ (x.toList == (atL (allD (atS L k)) j).toList) = true
    · obtain ⟨j, hj, e⟩ := he
      rw [plTo_in _ _ _ _ _ j hj e] at h'
      obtain rfl := Option.some.inj h'
      exact ⟨by omega, (hasB_iff _ _).2 ⟨j, hj, e⟩⟩
    · rw [plTo_eq _ _ _ _ _ (fun j hj => by
        cases e : (x.toList == (atL (allD (atS L k)) j).toList) with
        | false => rfl
        | true => exact absurd ⟨j, hj, e⟩ he)] at h'
      obtain ⟨h1, h2⟩ := plOf_inv L x k i h'
      exact ⟨by omega, h2⟩
theorem sets_apart {n : Nat} {f : Nat → ByteArray} {L : List SetL} (h : setsB n f L = true) {i j : Nat} (hij : i < j) (hj : j < L.length) {d : ByteArray} (hd : hasB (atS L j) d = true) : hasB (atS L i) d = false := by
  have ho := (setsB_parts h).2.2 j hj
  unfold okS at ho
  rw [Bool.and_eq_true] at ho
  have ha := (apartB_iff L (atS L j) j (by omega)).1 ho.2
  obtain ⟨k, hk, e⟩ := (hasB_iff _ _).1 hd
  have ex : d = atL (allD (atS L j)) k := by
    rw [beq_iff_eq, Lib.toList_data, Lib.toList_data] at e
    cases hx : d
    cases hy : atL (allD (atS L j)) k
    rw [hx, hy] at e
    congr 1
    exact Array.toList_inj.1 e
  rw [ex]
  exact ha k hk i hij
theorem plOf_val {n : Nat} {f : Nat → ByteArray} {L : List SetL} (h : setsB n f L = true) {i : Nat} (hi : i < L.length) {d : ByteArray} (hd : hasB (atS L i) d = true) : plOf L L.length d = some i := by
  have hs : (plOf L L.length d).isSome = true := (plOf_some L d L.length).2 ⟨i, hi, hd⟩
  cases e : plOf L L.length d with
  | none => rw [e] at hs; cases hs
  | some j =>
    obtain ⟨hj, hd'⟩ := plOf_inv L d _ j e
    rcases Nat.lt_trichotomy i j with h' | h' | h'
    · rw [sets_apart h h' hj hd'] at hd; cases hd
    · rw [h']
    · rw [sets_apart h h' hi hd] at hd'; cases hd'
theorem hasB_right {n : Nat} {f : Nat → ByteArray} {x : SetL} (h : setRB n f x = true) {d : ByteArray} (hd : hasB x d = true) : domB n f d = true := by
  obtain ⟨h0, h1, h2, h3⟩ := setRB_parts h
  obtain ⟨k, hk, e⟩ := (hasB_iff _ _).1 hd
  have ex : d = atL (allD x) k := by
    rw [beq_iff_eq, Lib.toList_data, Lib.toList_data] at e
    cases hx : d
    cases hy : atL (allD x) k
    rw [hx, hy] at e
    congr 1
    exact Array.toList_inj.1 e
  rw [ex]
  obtain ⟨p, M⟩ := x
  cases k with
  | zero => exact h0
  | succ k =>
    rw [atD_succ]
    have hk' : k < M.length := by have : (allD (p, M)).length = M.length + 1 := rfl; omega
    have := h3 k hk'
    unfold okM at this
    rw [Bool.and_eq_true, Bool.and_eq_true] at this
    exact this.1.1
theorem pre8 {s : ByteArray} : Lib.hasPrefix s.data.toList httpsT.data.toList = (decide (8 ≤ s.size) && ((s.extract 0 8).toList == [104, 116, 116, 112, 115, 58, 47, 47])) := by
  rw [← Lib.hasPrefix_raw, Lib.toList_data httpsT]
  rfl
theorem siteQ_pre {n : Nat} {f : Nat → ByteArray} {s : ByteArray} : siteQ n f s = (Lib.hasPrefix s.data.toList httpsT.data.toList && domB n f (s.extract 8 s.size)) := by
  rw [pre8]
  unfold siteQ
  by_cases h : 8 < s.size
  · rw [decide_eq_true h, decide_eq_true (by omega)]
  · rw [decide_eq_false h]
    have : domB n f (s.extract 8 s.size) = false := by
      cases e : domB n f (s.extract 8 s.size) with
      | false => rfl
      | true =>
        have := (domB_size e).1
        rw [ByteArray.size_extract] at this; omega
    rw [this]; simp
theorem pre_inj {a b : ByteArray} (ha : Lib.hasPrefix a.data.toList httpsT.data.toList = true) (hb : Lib.hasPrefix b.data.toList httpsT.data.toList = true) (h : ((a.extract 8 a.size).toList == (b.extract 8 b.size).toList) = true) : (a.toList == b.toList) = true := by
  have key : ∀ s : ByteArray, Lib.hasPrefix s.data.toList httpsT.data.toList = true → s.toList = httpsT.data.toList ++ (s.extract 8 s.size).toList := fun s hs => by
    rw [Lib.extract_toList, Lib.toList_data]
    unfold Lib.hasPrefix at hs
    rw [List.isPrefixOf_iff_prefix] at hs
    obtain ⟨t, ht⟩ := hs
    rw [← ht, List.take_of_length_le (by rw [Lib.size_eq, ← ht]; simp)]
    rfl
  rw [beq_iff_eq] at h ⊢
  rw [key a ha, key b hb, h]
theorem relI_right {n : Nat} {f : Nat → ByteArray} {L : List SetL} (hs : setsB n f L = true) (a b : ByteArray) : relI n f L a b = relB n f L a b := by
  have hr : rulesB n f = true := (setsB_parts hs).1
  have hd : ∀ s, domR n f s = domB n f s := fun s => by unfold domR; rw [hr]; rfl
  unfold relI relB
  cases hab : (a.toList == b.toList) with
  | true =>
    have e : a = b := by
      rw [beq_iff_eq, Lib.toList_data, Lib.toList_data] at hab
      cases a; cases b
      congr 1
      exact Array.toList_inj.1 hab
    subst e
    rw [if_pos rfl, hd, ← siteQ_pre, beq_self_eq_true]
    simp
  | false =>
    rw [if_neg (by decide), siteQ_pre (s := a), siteQ_pre (s := b)]
    unfold plA
    cases ha : Lib.hasPrefix a.data.toList httpsT.data.toList with
    | false => simp
    | true =>
      cases hb : Lib.hasPrefix b.data.toList httpsT.data.toList with
      | false => simp
      | true =>
        have hne : ((a.extract 8 a.size).toList == (b.extract 8 b.size).toList) = false := by
          cases e : ((a.extract 8 a.size).toList == (b.extract 8 b.size).toList) with
          | false => rfl
          | true => rw [pre_inj ha hb e] at hab; cases hab
        rw [if_pos rfl, if_pos rfl, Bool.true_and, Bool.true_and]
        have hA : siteQ n f a = domB n f (a.extract 8 a.size) := by rw [siteQ_pre, ha]; rfl
        have hB : siteQ n f b = domB n f (b.extract 8 b.size) := by rw [siteQ_pre, hb]; rfl
        rw [Bool.eq_iff_iff]
        constructor
        · intro h
          cases ea : plOf L L.length (a.extract 8 a.size) with
          | none => rw [ea] at h; cases h
          | some i =>
            cases eb : plOf L L.length (b.extract 8 b.size) with
            | none => rw [ea, eb] at h; cases h
            | some j =>
              rw [ea, eb] at h
              have hij : i = j := by simpa using h
              subst hij
              obtain ⟨hi, h1⟩ := plOf_inv L _ _ i ea
              obtain ⟨-, h2⟩ := plOf_inv L _ _ i eb
              have hok := okS_set ((setsB_parts hs).2.2 i hi)
              have d1 := hasB_right hok h1
              have d2 := hasB_right hok h2
              rw [d1, d2]
              rw [siteD_yes (by rw [hA]; exact d1), siteD_yes (by rw [hB]; exact d2)]
              rw [ofS_hit hi (fun j hj => sets_apart hs hj hi h1) h1, h2]
              simp
        · intro h
          rw [Bool.and_eq_true, Bool.and_eq_true] at h
          obtain ⟨⟨d1, d2⟩, h3⟩ := h
          rw [siteD_yes (by rw [hA]; exact d1), siteD_yes (by rw [hB]; exact d2), hne, Bool.false_or] at h3
          by_cases he : ∃ i, i < L.length ∧ hasB (atS L i) (a.extract 8 a.size) = true
          · obtain ⟨i, hi, h1⟩ := he
            rw [ofS_hit hi (fun j hj => sets_apart hs hj hi h1) h1] at h3
            rw [plOf_val hs hi h1, plOf_val hs hi h3]
            simp
          · rw [ofS_none (fun j hj => by
              cases e : hasB (atS L j) (a.extract 8 a.size) with
              | false => rfl
              | true => exact absurd ⟨j, hj, e⟩ he)] at h3
            exfalso
            have hp := (domB_size d2).1
            unfold hasB allD at h3
            simp only [List.any_cons, List.any_nil, Bool.or_false, beq_iff_eq] at h3
            rw [Lib.toList_data, Lib.toList_data] at h3
            have hz : (b.extract 8 b.size).size = 0 := by rw [Lib.size_eq, ← h3]; rfl
            omega
theorem relI_one {n : Nat} {f : Nat → ByteArray} {L : List SetL} {a b : ByteArray} (h : (a.toList == b.toList) = true) : relI n f L a b = (Lib.hasPrefix a.data.toList httpsT.data.toList && domR n f (a.extract 8 a.size)) := by unfold relI; rw [if_pos h]
theorem relI_two {n : Nat} {f : Nat → ByteArray} {L : List SetL} {a b : ByteArray} (h : (a.toList == b.toList) = false) {i j : Nat} (h1 : plA L a = some i) (h2 : plA L b = some j) : relI n f L a b = (i == j) := by unfold relI; rw [if_neg (by rw [h]; decide), h1, h2]
theorem relI_noA {n : Nat} {f : Nat → ByteArray} {L : List SetL} {a b : ByteArray} (h : (a.toList == b.toList) = false) (h1 : plA L a = none) : relI n f L a b = false := by unfold relI; rw [if_neg (by rw [h]; decide), h1]
theorem relI_noB {n : Nat} {f : Nat → ByteArray} {L : List SetL} {a b : ByteArray} (h : (a.toList == b.toList) = false) (h1 : plA L b = none) : relI n f L a b = false := by
  unfold relI
  rw [if_neg (by rw [h]; decide), h1]
  cases plA L a <;> rfl
end Go.Proofs.YtfoekelhcmlagaaDoor

/- The walks of the specification's l05Site, l05Of, l05Related and Related. -/
namespace Go.Proofs.YtfoekelhcmlagaaDoor
open Go.RowKit Go.Maps

set_option maxRecDepth 10000 in
set_option maxHeartbeats 1000000 in
theorem specSite5_any (v : Value) (n B : Nat) (f : Nat → ByteArray) (s : ByteArray) (w : World) (hr : SliceS w B v n f) (l1 : n ≤ 1048576) (hf : ∀ i, i < n → 0 < (f i).size ∧ (f i).size ≤ 1000) :
    Calls Tryd.prog 97 #[v, .string s] w fun e w' => e = .returned (.string (siteD n f s)) ∧ Below w.heap.size w w' := by
  have KD : Hid (Calls Tryd.prog 145 #[v, .string (s.extract 8 s.size)] w fun e w' => e = .returned (.bool (domB n f (s.extract 8 s.size))) ∧ Below w.heap.size w w') := specDomain_any v n B f _ w hr l1 hf
  have HE : Hid (siteQ n f s = (decide (8 < s.size) && ((s.extract 0 8).toList == [104, 116, 116, 112, 115, 58, 47, 47]) && domB n f (s.extract 8 s.size))) := rfl
  have HY : Hid (siteQ n f s = true → siteD n f s = s.extract 8 s.size) := fun h => siteD_yes h
  have HN : Hid (siteQ n f s = false → siteD n f s = ⟨#[]⟩) := fun h => siteD_no h
  clear hr hf
  generalize siteD n f s = R at *
  generalize siteQ n f s = Q at *
  generalize domB n f (s.extract 8 s.size) = bd at *
  by_cases h8 : 8 < s.size
  · have q8 : decide ((8 : Int) < (s.size : Int)) = true := by rw [decide_eq_true_iff]; omega
    cases hp : ((s.extract 0 8).toList == [104, 116, 116, 112, 115, 58, 47, 47]) with
    | false =>
      have HQ : Hid (R = ⟨#[]⟩) := HN.out (by rw [HE.out, hp]; simp)
      go_enter Tryd.func97, Tryd.ntmps97
      go_wp2
      go_ret
      exact ⟨ret_text HQ.out.symm, Below.refl _ _⟩
    | true =>
      go_enter Tryd.func97, Tryd.ntmps97
      go_wp2_with fail
      refine KD.out.mono ?_
      rintro e w1 ⟨rfl, hb1⟩
      cases bd with
      | false =>
        have HQ : Hid (R = ⟨#[]⟩) := HN.out (by rw [HE.out]; simp)
        go_wp2
        go_ret
        exact ⟨ret_text HQ.out.symm, hb1⟩
      | true =>
        have HQ : Hid (R = s.extract 8 s.size) := HY.out (by rw [HE.out, hp, decide_eq_true h8]; rfl)
        go_wp2
        go_ret
        exact ⟨ret_text HQ.out.symm, hb1⟩
  · have q8 : decide ((8 : Int) < (s.size : Int)) = false := by rw [decide_eq_false_iff_not]; omega
    have HQ : Hid (R = ⟨#[]⟩) := HN.out (by rw [HE.out, decide_eq_false h8]; rfl)
    go_enter Tryd.func97, Tryd.ntmps97
    go_wp2
    go_ret
    exact ⟨ret_text HQ.out.symm, Below.refl _ _⟩

set_option maxRecDepth 10000 in
set_option maxHeartbeats 4000000 in
theorem specOf5_any (v : Value) (L : List SetL) (d : ByteArray) (B : Nat) (w : World) (hv : SliceT w B v L) (hL : L.length ≤ 1048576) (hm : ∀ j, j < L.length → 0 < (atS L j).2.length ∧ (atS L j).2.length ≤ 1048576) :
    Calls Tryd.prog 98 #[v, .string d] w fun e w' => ∃ u, e = .returned (.agg #[.string (ofS L d).1, u]) ∧ SliceS w' 0 u (ofS L d).2.length (atL (ofS L d).2) ∧ (0 < (ofS L d).2.length ∨ u = .slice none 0 0) ∧ (ofS L d).2.length ≤ 1048576 ∧ Below w.heap.size w w' := by
  obtain ⟨uu, ⟨p, cap, rfl, hg⟩, hu, -⟩ := hv
  have HG : Hid (0 < L.length → ∃ g, p = some ⟨g, 0, none⟩ ∧ g < w.heap.size ∧ ∀ j, j < L.length → w.cell? ⟨g, j * 2, none⟩ = some (.string (atS L j).1) ∧ w.cell? ⟨g, j * 2 + 1, none⟩ = some (uu j)) := fun h0 => by
    obtain ⟨g, e, -, hgw, hc⟩ := hg h0
    exact ⟨g, e, hgw, fun j hj => ⟨(hc j hj 0 (by omega)).1, (hc j hj 1 (by omega)).1⟩⟩
  have HU : Hid (∀ j, j < L.length → SliceS w B (uu j) (atS L j).2.length (atL (atS L j).2)) := hu
  have HM : Hid (∀ j, j < L.length → 0 < (atS L j).2.length ∧ (atS L j).2.length ≤ 1048576) := hm
  have KH : Hid (∀ j, j < L.length → ∀ W, Below w.heap.size w W → Calls Tryd.prog 147 #[.agg #[.string (atS L j).1, uu j], .string d] W fun e w' => e = .returned (.bool (hasB (atS L j) d)) ∧ Below W.heap.size W w') := fun j hj W hb => specHas_any (atS L j) (uu j) B d W ((hu j hj).below hb) (.inl (hm j hj).1) (hm j hj).2
  have HHit : Hid (∀ k, k < L.length → (∀ j, j < k → hasB (atS L j) d = false) → hasB (atS L k) d = true → ofS L d = atS L k) := fun k a b c => ofS_hit a b c
  have HNone : Hid ((∀ j, j < L.length → hasB (atS L j) d = false) → ofS L d = (⟨#[]⟩, [])) := fun h => ofS_none h
  clear hg hu hm
  generalize ofS L d = R at *
  obtain ⟨W0, hW⟩ : ∃ W0, W0 = w.alloc (.cells #[.string ⟨#[]⟩, .slice none 0 0] 47) := ⟨_, rfl⟩
  have hW0 : Hid (W0 = w.alloc (.cells #[.string ⟨#[]⟩, .slice none 0 0] 47)) := hW
  have HB0 : Hid (Below w.heap.size w W0) := by show Below _ _ _; rw [hW]; exact (Below.refl _ _).alloc (Nat.le_refl _) _
  have z0 : w.heap.size < W0.heap.size := by rw [hW]; simp
  have a0 : W0.cell? ⟨w.heap.size, 0, none⟩ = some (.string ⟨#[]⟩) := by rw [hW]; simp
  have a1 : W0.cell? ⟨w.heap.size, 1, none⟩ = some (.slice none 0 0) := by rw [hW]; simp
  have f0 : W0.frozen? ⟨w.heap.size, 0, none⟩ = false := by rw [hW]; simp
  have f1 : W0.frozen? ⟨w.heap.size, 1, none⟩ = false := by rw [hW]; simp
  clear hW
  go_enter Tryd.func98, Tryd.ntmps98
  go_upto_region 1 with fail
  rw [← hW0.out]
  clear hW0
  go_wp2
  go_loopw [5] (fun i wr => ∃ k : Nat, k ≤ L.length ∧ i = .int .i64 k ∧ Hid (Below W0.heap.size W0 wr) ∧ Hid (∀ j, j < k → hasB (atS L j) d = false)) (fun i _ => L.length - (intOf i).toNat)
  case atStart => exact ⟨0, Nat.zero_le _, rfl, Below.refl _ _, fun j hj => absurd hj (by omega)⟩
  case round =>
    obtain ⟨k, hk, rfl, HB, HR⟩ := hrel
    have BW : Hid (Below w.heap.size w wr) := HB0.out.trans (HB.out.mono HB0.out.size)
    by_cases hlt : k < L.length
    · obtain ⟨g, rfl, hgw, hc⟩ := HG.out (by omega)
      have c0 : wr.cell? ⟨g, k * 2, none⟩ = some (.string (atS L k).1) := ((bcell BW.out).1 _ _ hgw).trans (hc k hlt).1
      have c1 : wr.cell? ⟨g, k * 2 + 1, none⟩ = some (uu k) := ((bcell BW.out).1 _ _ hgw).trans (hc k hlt).2
      have k0 : (0 : Int) ≤ k := by omega
      have k1 : (k : Int) < L.length := by omega
      have KC0 := KH.out k hlt wr BW.out
      have SU := (HU.out k hlt).below BW.out
      obtain ⟨up, uc, hup, -⟩ := id SU
      have HPl : Hid (0 < (atS L k).2.length → ∃ gu, (Value.slice up (atS L k).2.length uc).ownBlock = some gu ∧ gu < w.heap.size) := fun hn => by
        obtain ⟨gu, e, -, h, -⟩ := (HU.out k hlt).place hn
        rw [hup] at e
        exact ⟨gu, e, h⟩
      rw [hup] at KC0 c1 SU
      have SU1 : Hid (SliceS wr B (.slice up (atS L k).2.length uc) (atS L k).2.length (atL (atS L k).2)) := SU
      have HMk := HM.out k hlt
      have HMK : Hid (0 < (atS L k).2.length ∧ (atS L k).2.length ≤ 1048576) := HMk
      have KC : Hid (Calls Tryd.prog 147 #[.agg #[.string (atS L k).1, .slice up (atS L k).2.length uc], .string d] wr fun e w' => e = .returned (.bool (hasB (atS L k) d)) ∧ Below wr.heap.size wr w') := KC0
      have HH : Hid (hasB (atS L k) d = true → R = atS L k) := fun e => HHit.out k hlt HR.out e
      have HN2 : Hid (hasB (atS L k) d = false → ∀ j, j < k + 1 → hasB (atS L j) d = false) := fun e j hj => by
        by_cases e2 : j = k
        · subst e2; exact e
        · exact HR.out j (by omega)
      have hgr : g < wr.heap.size := Nat.lt_of_lt_of_le hgw BW.out.size
      clear hc KC0 SU HMk hup
      generalize hasB (atS L k) d = hb at *
      generalize atS L k = y at *
      obtain ⟨yp, yM⟩ := y
      dsimp only at *
      go_wp2_with fail
      refine KC.out.mono ?_
      rintro e w2 ⟨rfl, hb2⟩
      have d0 : w2.cell? ⟨g, k * 2, none⟩ = some (.string yp) := ((bcell hb2).1 _ _ hgr).trans c0
      have d1 : w2.cell? ⟨g, k * 2 + 1, none⟩ = some (.slice up yM.length uc) := ((bcell hb2).1 _ _ hgr).trans c1
      have B2 : Hid (Below W0.heap.size W0 w2) := HB.out.trans (hb2.mono HB.out.size)
      have S2 : Hid (SliceS w2 B (.slice up yM.length uc) yM.length (atL yM)) := SU1.out.below hb2
      clear hb2 c0 c1
      cases hb with
      | true =>
        have HQ : Hid (R = (yp, yM)) := HH.out rfl
        have r0 : w2.cell? ⟨w.heap.size, 0, none⟩ = some (.string ⟨#[]⟩) := ((bcell B2.out).1 _ _ z0).trans a0
        have r1 : w2.cell? ⟨w.heap.size, 1, none⟩ = some (.slice none 0 0) := ((bcell B2.out).1 _ _ z0).trans a1
        have g0 : w2.frozen? ⟨w.heap.size, 0, none⟩ = false := ((bcell B2.out).2 _ _ z0).trans f0
        have g1 : w2.frozen? ⟨w.heap.size, 1, none⟩ = false := ((bcell B2.out).2 _ _ z0).trans f1
        have hfar : ¬ w.heap.size = g := by omega
        have BW2 : Hid (Below w.heap.size w w2) := HB0.out.trans (B2.out.mono HB0.out.size)
        have HU2 : Hid (∀ x y, SliceS ((w2.setCell ⟨w.heap.size, 0, none⟩ x).setCell ⟨w.heap.size, 1, none⟩ y) 0 (.slice up yM.length uc) yM.length (atL yM)) := fun x y => by
          have hne : 0 < yM.length → (Value.slice up yM.length uc).ownBlock ≠ some w.heap.size := fun hn => by
            obtain ⟨gu, e, h⟩ := HPl.out hn
            rw [e]
            intro e2
            have := Option.some.inj e2
            omega
          exact SliceS.mono ((S2.out.setFar hne).setFar hne) (Nat.zero_le _)
        go_wp2
        exact bodyPost_ret (v := .agg #[.string yp, .slice up yM.length uc]) (by simp [results, Tryd.results98, go_sem, r0, r1]) rfl ⟨.slice up yM.length uc, by rw [HQ.out], by rw [HQ.out]; exact HU2.out _ _, by rw [HQ.out]; exact .inl HMK.out.1, by rw [HQ.out]; exact HMK.out.2, (BW2.out.setCell (Nat.le_refl _) _).setCell (Nat.le_refl _) _⟩
      | false =>
        have HN3 : Hid (∀ j, j < k + 1 → hasB (atS L j) d = false) := HN2.out rfl
        go_wp2
        go_roundw
        case rel => exact ⟨k + 1, by omega, by go_num, B2, HN3⟩
        case measure => simp [intOf]; omega
    · have HQ : Hid (R = (⟨#[]⟩, [])) := HNone.out (fun j hj => HR.out j (by omega))
      have r0 : wr.cell? ⟨w.heap.size, 0, none⟩ = some (.string ⟨#[]⟩) := ((bcell HB.out).1 _ _ z0).trans a0
      have r1 : wr.cell? ⟨w.heap.size, 1, none⟩ = some (.slice none 0 0) := ((bcell HB.out).1 _ _ z0).trans a1
      have g0 : wr.frozen? ⟨w.heap.size, 0, none⟩ = false := ((bcell HB.out).2 _ _ z0).trans f0
      have g1 : wr.frozen? ⟨w.heap.size, 1, none⟩ = false := ((bcell HB.out).2 _ _ z0).trans f1
      go_wp2
      exact bodyPost_ret (v := .agg #[.string ⟨#[]⟩, .slice none 0 0]) (by simp [results, Tryd.results98, go_sem, r0, r1]) rfl ⟨.slice none 0 0, by rw [HQ.out], by rw [HQ.out]; exact ⟨none, 0, rfl, fun h => absurd h (by simp)⟩, .inr rfl, by rw [HQ.out]; exact Nat.zero_le _, (BW.out.setCell (Nat.le_refl _) _).setCell (Nat.le_refl _) _⟩

set_option maxRecDepth 10000 in
set_option maxHeartbeats 4000000 in
theorem specRel5_any (v lv : Value) (n B B' : Nat) (f : Nat → ByteArray) (L : List SetL) (a b : ByteArray) (w : World) (hr : SliceS w B v n f) (l1 : n ≤ 1048576) (hf : ∀ i, i < n → 0 < (f i).size ∧ (f i).size ≤ 1000) (hs : SliceT w B' lv L) (hL : L.length ≤ 1048576) (hm : ∀ j, j < L.length → 0 < (atS L j).2.length ∧ (atS L j).2.length ≤ 1048576) :
    Calls Tryd.prog 102 #[v, lv, .string a, .string b] w fun e w' => e = .returned (.bool (relB n f L a b)) ∧ Below w.heap.size w w' := by
  have KA : Hid (∀ W, Below w.heap.size w W → Calls Tryd.prog 97 #[v, .string a] W fun e w' => e = .returned (.string (siteD n f a)) ∧ Below W.heap.size W w') := fun W hb => specSite5_any v n B f a W (hr.below hb) l1 hf
  have KB : Hid (∀ W, Below w.heap.size w W → Calls Tryd.prog 97 #[v, .string b] W fun e w' => e = .returned (.string (siteD n f b)) ∧ Below W.heap.size W w') := fun W hb => specSite5_any v n B f b W (hr.below hb) l1 hf
  have KO : Hid (∀ W, Below w.heap.size w W → Calls Tryd.prog 98 #[lv, .string (siteD n f a)] W fun e w' => ∃ u, e = .returned (.agg #[.string (ofS L (siteD n f a)).1, u]) ∧ SliceS w' 0 u (ofS L (siteD n f a)).2.length (atL (ofS L (siteD n f a)).2) ∧ (0 < (ofS L (siteD n f a)).2.length ∨ u = .slice none 0 0) ∧ (ofS L (siteD n f a)).2.length ≤ 1048576 ∧ Below W.heap.size W w') := fun W hb => specOf5_any lv L _ B' W (hs.below hb) hL hm
  have KH : Hid (∀ u W, SliceS W 0 u (ofS L (siteD n f a)).2.length (atL (ofS L (siteD n f a)).2) → (0 < (ofS L (siteD n f a)).2.length ∨ u = .slice none 0 0) → (ofS L (siteD n f a)).2.length ≤ 1048576 → Calls Tryd.prog 147 #[.agg #[.string (ofS L (siteD n f a)).1, u], .string (siteD n f b)] W fun e w' => e = .returned (.bool (hasB (ofS L (siteD n f a)) (siteD n f b))) ∧ Below W.heap.size W w') := fun u W s h1 h2 => specHas_any _ u 0 _ W s h1 h2
  have HE : Hid (relB n f L a b = (siteQ n f a && siteQ n f b && (((siteD n f a).toList == (siteD n f b).toList) || hasB (ofS L (siteD n f a)) (siteD n f b)))) := rfl
  have EA : (siteD n f a).toList.isEmpty = !(siteQ n f a) := siteD_empty n f a
  have EB : (siteD n f b).toList.isEmpty = !(siteQ n f b) := siteD_empty n f b
  obtain ⟨rp, rc, rfl, -⟩ := hr
  clear hf hs hm
  generalize relB n f L a b = R at *
  generalize siteQ n f a = qa at *
  generalize siteQ n f b = qb at *
  generalize siteD n f a = x at *
  generalize siteD n f b = y at *
  generalize hasB (ofS L x) y = hh at *
  generalize (ofS L x).1 = op at *
  generalize (ofS L x).2 = oM at *
  go_enter Tryd.func102, Tryd.ntmps102
  go_wp2_with fail
  refine (KA.out _ (Below.refl _ _)).mono ?_
  rintro e w1 ⟨rfl, hb1⟩
  have B1 : Hid (Below w.heap.size w w1) := hb1
  clear hb1
  go_wp2_with fail
  refine (KB.out _ B1.out).mono ?_
  rintro e w2 ⟨rfl, hb2⟩
  have B2 : Hid (Below w.heap.size w w2) := B1.out.trans (hb2.mono B1.out.size)
  clear hb2
  cases qa with
  | false =>
    have e1 : x.toList.isEmpty = true := EA
    have HQ : Hid (R = false) := by show _ = _; rw [HE.out]; rfl
    clear EA EB
    go_wp2
    go_ret
    exact ⟨ret_bool HQ.out.symm, B2.out⟩
  | true =>
    have e1 : x.toList.isEmpty = false := EA
    cases qb with
    | false =>
      have e2 : y.toList.isEmpty = true := EB
      have HQ : Hid (R = false) := by show _ = _; rw [HE.out]; rfl
      clear EA EB
      go_wp2
      go_ret
      exact ⟨ret_bool HQ.out.symm, B2.out⟩
    | true =>
      have e2 : y.toList.isEmpty = false := EB
      clear EA EB
      cases hxy : (x.toList == y.toList) with
      | true =>
        have HQ : Hid (R = true) := by show _ = _; rw [HE.out, hxy]; rfl
        go_wp2
        go_ret
        exact ⟨ret_bool HQ.out.symm, B2.out⟩
      | false =>
        have HQ : Hid (R = hh) := by show _ = _; rw [HE.out, hxy]; rfl
        go_wp2_with fail
        refine (KO.out _ B2.out).mono ?_
        rintro e w3 ⟨u, rfl, hs3, h1, h2, hb3⟩
        have B3 : Hid (Below w.heap.size w w3) := B2.out.trans (hb3.mono B2.out.size)
        have KH1 : Hid (Calls Tryd.prog 147 #[.agg #[.string op, u], .string y] w3 fun e w' => e = .returned (.bool hh) ∧ Below w3.heap.size w3 w') := KH.out u w3 hs3 h1 h2
        clear hb3 hs3 h1 h2
        go_wp2_with fail
        refine KH1.out.mono ?_
        rintro e w4 ⟨rfl, hb4⟩
        go_wp2
        go_ret
        exact ⟨ret_bool HQ.out.symm, B3.out.trans (hb4.mono B3.out.size)⟩

theorem setsB_mem {n : Nat} {f : Nat → ByteArray} {L : List SetL} (h : setsB n f L = true) : ∀ j, j < L.length → 0 < (atS L j).2.length ∧ (atS L j).2.length ≤ 1048576 := fun j hj => by
  have := setRB_parts (okS_set ((setsB_parts h).2.2 j hj))
  exact ⟨this.2.1, by omega⟩
set_option maxRecDepth 10000 in
set_option maxHeartbeats 4000000 in
theorem specRelated_any (v lv : Value) (n B B' : Nat) (f : Nat → ByteArray) (L : List SetL) (a b : ByteArray) (w : World) (hr : SliceS w B v n f) (l1 : n ≤ 1048576) (hf : ∀ i, i < n → (f i).size ≤ 1048576) (hs : SliceT w B' lv L) (hL : L.length ≤ 1048576) (hm : ∀ j, j < L.length → (atS L j).2.length ≤ 1048576) :
    Calls Tryd.prog 45 #[v, lv, .string a, .string b] w fun e w' => e = .returned (.bool (relatedB n f L a b)) ∧ Below w.heap.size w w' := by
  have KS : Hid (Calls Tryd.prog 30 #[v, lv] w fun e w' => e = .returned (.bool (setsB n f L)) ∧ Below w.heap.size w w') := specSetsRight_any v n B f lv L B' w hr l1 hf hs hL hm
  have KR : Hid (setsB n f L = true → ∀ W, Below w.heap.size w W → Calls Tryd.prog 102 #[v, lv, .string a, .string b] W fun e w' => e = .returned (.bool (relB n f L a b)) ∧ Below W.heap.size W w') := fun h W hb => specRel5_any v lv n B B' f L a b W (hr.below hb) l1 (specDomain_rules (setsB_parts h).1) (hs.below hb) hL (setsB_mem h)
  have HE : Hid (relatedB n f L a b = (setsB n f L && relB n f L a b)) := rfl
  have HLong : Hid (400 < L.length ∨ 8000 < a.size ∨ 8000 < b.size → relatedB n f L a b = false) := fun h => relatedB_long h
  obtain ⟨rp, rc, rfl, -⟩ := hr
  obtain ⟨uu, ⟨lp, lc, rfl, -⟩, -⟩ := hs
  clear hf hm
  generalize relatedB n f L a b = R at *
  generalize relB n f L a b = rr at *
  generalize setsB n f L = ss at *
  by_cases h1 : 400 < L.length
  · have HQ : Hid (R = false) := HLong.out (.inl h1)
    have q1 : decide ((L.length : Int) ≤ 400) = false := by rw [decide_eq_false_iff_not]; omega
    go_enter Tryd.func45, Tryd.ntmps45
    go_wp2
    go_ret
    exact ⟨ret_bool HQ.out.symm, Below.refl _ _⟩
  have q1 : decide ((L.length : Int) ≤ 400) = true := by rw [decide_eq_true_iff]; omega
  by_cases h2 : 8000 < a.size
  · have HQ : Hid (R = false) := HLong.out (.inr (.inl h2))
    have q2 : decide ((a.size : Int) ≤ 8000) = false := by rw [decide_eq_false_iff_not]; omega
    go_enter Tryd.func45, Tryd.ntmps45
    go_wp2
    go_ret
    exact ⟨ret_bool HQ.out.symm, Below.refl _ _⟩
  have q2 : decide ((a.size : Int) ≤ 8000) = true := by rw [decide_eq_true_iff]; omega
  by_cases h3 : 8000 < b.size
  · have HQ : Hid (R = false) := HLong.out (.inr (.inr h3))
    have q3 : decide ((b.size : Int) ≤ 8000) = false := by rw [decide_eq_false_iff_not]; omega
    go_enter Tryd.func45, Tryd.ntmps45
    go_wp2
    go_ret
    exact ⟨ret_bool HQ.out.symm, Below.refl _ _⟩
  have q3 : decide ((b.size : Int) ≤ 8000) = true := by rw [decide_eq_true_iff]; omega
  go_enter Tryd.func45, Tryd.ntmps45
  go_wp2_with fail
  refine KS.out.mono ?_
  rintro e w1 ⟨rfl, hb1⟩
  cases ss with
  | false =>
    have HQ : Hid (R = false) := by show _ = _; rw [HE.out]; rfl
    go_wp2
    go_ret
    exact ⟨ret_bool HQ.out.symm, hb1⟩
  | true =>
    have HQ : Hid (R = rr) := by show _ = _; rw [HE.out]; rfl
    have KR1 : Hid (∀ W, Below w.heap.size w W → Calls Tryd.prog 102 #[.slice rp n rc, .slice lp L.length lc, .string a, .string b] W fun e w' => e = .returned (.bool rr) ∧ Below W.heap.size W w') := KR.out rfl
    clear KR
    go_wp2_with fail
    refine (KR1.out _ hb1).mono ?_
    rintro e w2 ⟨rfl, hb2⟩
    go_wp2
    go_ret
    exact ⟨ret_bool HQ.out.symm, hb1.trans (hb2.mono hb1.size)⟩
end Go.Proofs.YtfoekelhcmlagaaDoor

/- The walk of the program's bookOf. -/
namespace Go.Proofs.YtfoekelhcmlagaaDoor
open Go.RowKit Go.Maps

/-- what is there already, stored once more -/
theorem setCell_same5 {w : World} {b o : Nat} {v : Value} (h : w.cell? ⟨b, o, none⟩ = some v) : w.setCell ⟨b, o, none⟩ v = w := by
  have hb : b < w.heap.size := by
    by_cases hb : b < w.heap.size
    · exact hb
    · exfalso
      simp [World.cell?, Array.getElem?_eq_none (show w.heap.size ≤ b by omega)] at h
  have hs : (w.setCell ⟨b, o, none⟩ v).heap = w.heap := by
    refine Array.ext (by simp [World.setCell]) (fun i h1 h2 => ?_)
    by_cases e : i = b
    · subst e
      unfold World.cell? at h
      rw [Array.getElem?_eq_getElem hb] at h
      simp only [World.setCell, Array.getElem_modify, if_true]
      cases hc : w.heap[i] with
      | cells c t fz =>
        rw [hc] at h
        simp only [Option.isSome_none, Bool.false_eq_true, if_false] at h ⊢
        congr 1
        refine Array.ext (by simp) (fun k k1 k2 => ?_)
        rw [Array.getElem_setIfInBounds]
        split
        · rename_i e2
          subst e2
          have h3 : c[o]? = some v := by simpa using h
          rw [Array.getElem?_eq_getElem (by simpa using k1)] at h3
          exact (Option.some.inj h3).symm
        · rfl
      | _ => rfl
    · simp only [World.setCell, Array.getElem_modify, if_neg (Ne.symm e)]
  cases w
  simp only [World.setCell] at hs ⊢
  rw [hs]
/-- the five errors stand -/
def ErrsI (w : World) : Prop := ErrAt w 0 ∧ ErrAt w 1 ∧ ErrAt w 2 ∧ ErrAt w 3 ∧ ErrAt w 5
theorem ErrAt.on {w w' : World} {g B : Nat} (h : ErrAt w g) (hb : Below B w w') (hB : w.heap.size ≤ B ∨ g < B) : ErrAt w' g := by
  obtain ⟨ty, v, h⟩ := h
  have hg := World.block_lt_of_cell? w _ h
  exact ⟨ty, v, by rw [hb.cell (p := ⟨g, 0, none⟩) (hB.elim (fun h => Nat.lt_of_lt_of_le hg h) id)]; exact h⟩
theorem ErrsI.below {w w' : World} (h : ErrsI w) (hb : Below w.heap.size w w') : ErrsI w' := ⟨h.1.on hb (.inl (Nat.le_refl _)), h.2.1.on hb (.inl (Nat.le_refl _)), h.2.2.1.on hb (.inl (Nat.le_refl _)), h.2.2.2.1.on hb (.inl (Nat.le_refl _)), h.2.2.2.2.on hb (.inl (Nat.le_refl _))⟩
theorem bookB_no {n : Nat} {f : Nat → ByteArray} {L : List SetL} (h : rulesB n f = false) : bookB n f L = false := by unfold bookB; rw [h]; rfl
theorem bookB_at {n : Nat} {f : Nat → ByteArray} {L : List SetL} (k : Nat) (hk : k < L.length) (h : okB n f L k = false) : bookB n f L = false := by
  unfold bookB
  rw [decide_eq_false (p := ∀ k, k < L.length → okB n f L k = true) (fun h' => by rw [h' k hk] at h; cases h), Bool.and_false]
theorem bookB_all {n : Nat} {f : Nat → ByteArray} {L : List SetL} (hr : rulesB n f = true) (h : ∀ k, k < L.length → okB n f L k = true) : bookB n f L = true := by
  unfold bookB; rw [hr, decide_eq_true h]; rfl
theorem okB_add {n : Nat} {f : Nat → ByteArray} {L : List SetL} {k : Nat} (h : addB n f (plOf L k) k (atS L k) = false) : okB n f L k = false := by unfold okB; rw [h, Bool.and_false]
theorem okB_order {n : Nat} {f : Nat → ByteArray} {L : List SetL} {m : Nat} (h : Op.bytesLess (atS L m).1.toList (atS L (m + 1)).1.toList = false) : okB n f L (m + 1) = false := by
  unfold okB; rw [Nat.add_sub_cancel, h]; rfl
theorem okB_yes {n : Nat} {f : Nat → ByteArray} {L : List SetL} {k : Nat} (h : addB n f (plOf L k) k (atS L k) = true) (h2 : k = 0 ∨ Op.bytesLess (atS L (k - 1)).1.toList (atS L k).1.toList = true) : okB n f L k = true := by
  unfold okB
  rw [h, Bool.and_true, Bool.or_eq_true, beq_iff_eq]
  exact h2
theorem okB_succ {n : Nat} {f : Nat → ByteArray} {L : List SetL} {k : Nat} (h : ∀ i, i < k → okB n f L i = true) (hk : okB n f L k = true) : ∀ i, i < k + 1 → okB n f L i = true := by
  intro i hi
  by_cases e : i = k
  · subst e; exact hk
  · exact h i (by omega)
theorem okB_six {n : Nat} {f : Nat → ByteArray} {L : List SetL} {k : Nat} (h : ∀ i, i < k → okB n f L i = true) : k ≤ 6 := by
  by_cases h6 : 6 < k
  · have := h 6 h6
    unfold okB addB at this
    rw [decide_eq_true rfl] at this
    simp at this
  · omega
theorem BookR.setLow {w : World} {B0 b bm r o : Nat} {rv sv x : Value} {T : List (SetL × Value)} (h : BookR w B0 b bm rv T sv) (hr : r < B0) : BookR (w.setCell ⟨r, o, none⟩ x) B0 b bm rv T sv where
  hb := h.hb
  hbm := h.hbm
  c0 := by rw [World.cell?_setCell_other _ _ _ _ (by intro e; injection e with e; have := h.hb; omega)]; exact h.c0
  c1 := by rw [World.cell?_setCell_other _ _ _ _ (by intro e; injection e with e; have := h.hb; omega)]; exact h.c1
  c2 := by rw [World.cell?_setCell_other _ _ _ _ (by intro e; injection e with e; have := h.hb; omega)]; exact h.c2
  fz := fun o => by rw [World.frozen?_setCell]; exact h.fz o
  own := own_far h.own (fun e => by have := (own_in5 h.own e).1; omega)
  nb := h.nb
  mem := fun t ht => ⟨(h.mem t ht).1.setFar (fun hn => by
    obtain ⟨g, e, hg, -⟩ := (h.mem t ht).1.place hn
    rw [e]
    intro e2
    have := Option.some.inj e2
    omega), (h.mem t ht).2⟩
/-- what the book is in the end -/
def BookIs (w : World) (B0 : Nat) (v : Value) (rv : Value) (L : List SetL) : Prop := ∃ B1 b bm T sv, B0 ≤ B1 ∧ v = .agg #[rv, sv, .map (some bm)] ∧ T.map Prod.fst = L ∧ BookR w B1 b bm rv T sv ∧ MapIs w bm 30 (plOf L L.length)
theorem take_snoc5 {L : List SetL} {k : Nat} (hk : k < L.length) : L.take (k + 1) = L.take k ++ [atS L k] := by
  rw [List.take_succ_eq_append_getElem hk]
  simp [atS, hk]
set_option maxRecDepth 10000 in
set_option maxHeartbeats 8000000 in
theorem bookOf_any (rv lv : Value) (n B B' : Nat) (f : Nat → ByteArray) (L : List SetL) (w : World) (hG : MaxI w) (hE : ErrsI w) (hr : SliceS w B rv n f) (l1 : n ≤ 1048576) (hf : ∀ i, i < n → (f i).size ≤ 1048576) (hs : SliceT w B' lv L) (hn : L.length ≤ 1048576) (hz : ∀ j, j < L.length → szS (atS L j)) :
    Calls Tryd.prog 95 #[rv, lv] w fun e w' => ((setsB n f L = true ∧ ∃ v, e = .returned (.tuple #[v, .nilIface]) ∧ BookIs w' w.heap.size v rv L) ∨ (setsB n f L = false ∧ ∃ ty v, e = .returned (.tuple #[.agg #[.slice none 0 0, .slice none 0 0, .map none], .iface ty v]))) ∧ Below w.heap.size w w' := by
  rw [← bookB_sets]
  have HNo : Hid (rulesB n f = false → bookB n f L = false) := fun h => bookB_no h
  have HAt : Hid (∀ k, k < L.length → okB n f L k = false → bookB n f L = false) := fun k a b => bookB_at k a b
  have HAll : Hid (rulesB n f = true → (∀ k, k < L.length → okB n f L k = true) → bookB n f L = true) := fun a b => bookB_all a b
  obtain ⟨uu, ⟨q, cap, rfl, hg⟩, hu, -⟩ := hs
  have HSl : Hid (SliceS w B rv n f) := hr
  have HG0 : Hid (MaxI w) := hG
  have HE0 : Hid (ErrsI w) := hE
  have HZ : Hid (∀ j, j < L.length → szS (atS L j)) := hz
  have HU : Hid (∀ j, j < L.length → SliceS w B' (uu j) (atS L j).2.length (atL (atS L j).2)) := hu
  have HF : Hid (∀ i, i < n → (f i).size ≤ 1048576) := hf
  have HGc : Hid (0 < L.length → ∃ g, q = some ⟨g, 0, none⟩ ∧ g < w.heap.size ∧ ∀ j, j < L.length → w.cell? ⟨g, j * 2, none⟩ = some (.string (atS L j).1) ∧ w.cell? ⟨g, j * 2 + 1, none⟩ = some (uu j)) := fun h0 => by
    obtain ⟨g, e, -, hgw, hc⟩ := hg h0
    exact ⟨g, e, hgw, fun j hj => ⟨(hc j hj 0 (by omega)).1, (hc j hj 1 (by omega)).1⟩⟩
  obtain ⟨rp, rc, rfl, -⟩ := hr
  clear hg hu hG hE hz hf
  generalize bookB n f L = R at *
  obtain ⟨W0, hW⟩ : ∃ W0, W0 = w.alloc (.cells #[.slice none 0 0, .slice none 0 0, .map none] 107) := ⟨_, rfl⟩
  have hW0 : Hid (W0 = w.alloc (.cells #[.slice none 0 0, .slice none 0 0, .map none] 107)) := hW
  have HB0 : Hid (Below w.heap.size w W0) := by show Below _ _ _; rw [hW]; exact (Below.refl _ _).alloc (Nat.le_refl _) _
  have z0 : w.heap.size < W0.heap.size := by rw [hW]; simp
  have a0 : W0.cell? ⟨w.heap.size, 0, none⟩ = some (.slice none 0 0) := by rw [hW]; simp
  have a1 : W0.cell? ⟨w.heap.size, 1, none⟩ = some (.slice none 0 0) := by rw [hW]; simp
  have a2 : W0.cell? ⟨w.heap.size, 2, none⟩ = some (.map none) := by rw [hW]; simp
  have af : Hid (∀ o, W0.frozen? ⟨w.heap.size, o, none⟩ = false) := by intro o; rw [hW]; simp
  clear hW
  have KR : Hid (Calls Tryd.prog 23 #[.slice rp n rc] W0 fun e w' => e = .returned (.bool (rulesB n f)) ∧ Below W0.heap.size W0 w') := rulesRight_any _ n B f W0 (HG0.out.on HB0.out) (HSl.out.below HB0.out) l1 HF.out
  generalize hrb : rulesB n f = rb at *
  go_enter Tryd.func95, Tryd.ntmps95
  go_upto_region 1 with fail
  rw [← hW0.out]
  clear hW0
  go_wp2_with fail
  refine KR.out.mono ?_
  rintro e w1 ⟨rfl, hb1⟩
  have B1 : Hid (Below w.heap.size w w1) := HB0.out.trans (hb1.mono HB0.out.size)
  have z1 : w.heap.size < w1.heap.size := Nat.lt_of_lt_of_le z0 hb1.size
  have b0 : w1.cell? ⟨w.heap.size, 0, none⟩ = some (.slice none 0 0) := ((bcell hb1).1 _ _ z0).trans a0
  have b1 : w1.cell? ⟨w.heap.size, 1, none⟩ = some (.slice none 0 0) := ((bcell hb1).1 _ _ z0).trans a1
  have b2 : w1.cell? ⟨w.heap.size, 2, none⟩ = some (.map none) := ((bcell hb1).1 _ _ z0).trans a2
  have bf : Hid (∀ o, w1.frozen? ⟨w.heap.size, o, none⟩ = false) := fun o => ((bcell hb1).2 _ _ z0).trans (af.out o)
  have E1 : Hid (ErrsI w1) := HE0.out.below B1.out
  clear hb1 a0 a1 a2 af KR HB0 HE0
  cases rb with
  | false =>
    have HQ : Hid (R = false) := HNo.out rfl
    obtain ⟨ety, ev, hev⟩ := E1.out.1
    have f0 := bf.out 0
    have f1 := bf.out 1
    have f2 := bf.out 2
    have s0 : w1.setCell ⟨w.heap.size, 0, none⟩ (.slice none 0 0) = w1 := setCell_same5 b0
    have s1 : w1.setCell ⟨w.heap.size, 1, none⟩ (.slice none 0 0) = w1 := setCell_same5 b1
    have s2 : w1.setCell ⟨w.heap.size, 2, none⟩ (.map none) = w1 := setCell_same5 b2
    have t0 : w1.drew.setCell ⟨w.heap.size, 0, none⟩ (.slice none 0 0) = w1.drew := setCell_same5 b0
    have t1 : w1.drew.setCell ⟨w.heap.size, 1, none⟩ (.slice none 0 0) = w1.drew := setCell_same5 b1
    have t2 : w1.drew.setCell ⟨w.heap.size, 2, none⟩ (.map none) = w1.drew := setCell_same5 b2
    clear HNo HAt HAll
    go_wp2_with fail
    go_region
    go_wp2
    exact bodyPost_ret (v := .tuple #[.agg #[.slice none 0 0, .slice none 0 0, .map none], .iface ety ev]) (by simp [results, Tryd.results95, go_sem, b0, b1, b2]) rfl ⟨.inr ⟨HQ.out, _, _, rfl⟩, B1.out.drew⟩
  | true =>
    have HAll1 : Hid ((∀ k, k < L.length → okB n f L k = true) → R = true) := HAll.out rfl
    clear HNo HAll
    have hmm := @run_makeMap Tryd.prog
    obtain ⟨W2, hW⟩ : ∃ W2, W2 = ((w1.alloc (.map #[] 0)).alloc (.cells #[.slice rp n rc, .slice none 0 0, .map (some w1.heap.size)] 107)) := ⟨_, rfl⟩
    have hW2 : Hid (W2 = ((w1.alloc (.map #[] 0)).alloc (.cells #[.slice rp n rc, .slice none 0 0, .map (some w1.heap.size)] 107))) := hW
    have HB2 : Hid (Below w1.heap.size w1 W2) := by show Below _ _ _; rw [hW]; exact ((Below.refl _ _).alloc (Nat.le_refl _) _).alloc (by simp) _
    have M2 : Hid (MapIs W2 w1.heap.size 0 (plOf L 0)) := by
      show MapIs _ _ _ _
      rw [hW]
      exact (mapIs_made w1).below ((Below.refl _ _).alloc (Nat.le_refl _) _)
    have K2 : Hid (BookR W2 w1.heap.size (w1.heap.size + 1) w1.heap.size (.slice rp n rc) [] (.slice none 0 0)) := by
      show BookR _ _ _ _ _ _ _
      rw [hW]
      exact ⟨by omega, Nat.le_refl _, (World.cell?_alloc_at _ _ _ _ (by simp)).trans rfl, (World.cell?_alloc_at _ _ _ _ (by simp)).trans rfl, (World.cell?_alloc_at _ _ _ _ (by simp)).trans rfl, fun o => World.frozen?_alloc_at _ _ _ _ (by simp), World.ownsRow_nil _ _ _ _, (by intro e; cases e), fun t ht => by cases ht⟩
    clear hW
    go_upto_region 4 with fail
    rw [← hW2.out]
    clear hW2 hmm
    go_wp2
    go_loopw [20] (fun i wr => ∃ (k : Nat) (T : List (SetL × Value)) (sv : Value), k ≤ L.length ∧ i = .int .i64 k ∧ Hid (T.map Prod.fst = L.take k) ∧ Hid (BookR wr w1.heap.size (w1.heap.size + 1) w1.heap.size (.slice rp n rc) T sv) ∧ Hid (MapIs wr w1.heap.size (5 * k) (plOf L k)) ∧ Hid (Below w1.heap.size w1 wr) ∧ Hid (∀ j, j < k → okB n f L j = true)) (fun i _ => L.length - (intOf i).toNat)
    case atStart => exact ⟨0, [], _, Nat.zero_le _, rfl, rfl, K2, M2, HB2, fun j hj => absurd hj (by omega)⟩
    case round =>
      obtain ⟨k, T, sv, hk, rfl, HT, HK, HM, HB, HR⟩ := hrel
      have r0 : wr.cell? ⟨w.heap.size, 0, none⟩ = some (.slice none 0 0) := ((bcell HB.out).1 _ _ z1).trans b0
      have r1 : wr.cell? ⟨w.heap.size, 1, none⟩ = some (.slice none 0 0) := ((bcell HB.out).1 _ _ z1).trans b1
      have r2 : wr.cell? ⟨w.heap.size, 2, none⟩ = some (.map none) := ((bcell HB.out).1 _ _ z1).trans b2
      have RF : Hid (∀ o, wr.frozen? ⟨w.heap.size, o, none⟩ = false) := fun o => ((bcell HB.out).2 _ _ z1).trans (bf.out o)
      have hz1r : w1.heap.size ≤ wr.heap.size := HB.out.size
      have BW : Hid (Below w.heap.size w wr) := B1.out.trans (HB.out.mono (Nat.le_of_lt z1))
      by_cases hlt : k < L.length
      · obtain ⟨g, rfl, hgw, hc⟩ := HGc.out (by omega)
        have h6 : k ≤ 6 := okB_six HR.out
        have hTl : T.length = k := by
          have := congrArg List.length HT.out
          rw [List.length_map, List.length_take] at this; omega
        have HTl : Hid (T.length = k) := hTl
        have c0 : wr.cell? ⟨g, k * 2, none⟩ = some (.string (atS L k).1) := ((bcell BW.out).1 _ _ hgw).trans (hc k hlt).1
        have c1 : wr.cell? ⟨g, k * 2 + 1, none⟩ = some (uu k) := ((bcell BW.out).1 _ _ hgw).trans (hc k hlt).2
        have k0 : (0 : Int) ≤ k := by omega
        have k1 : (k : Int) < L.length := by omega
        have SU : Hid (SliceS wr B' (uu k) (atS L k).2.length (atL (atS L k).2)) := (HU.out k hlt).below BW.out
        obtain ⟨up, uc, hup, -⟩ := SU.out
        obtain ⟨y1, y2, y3⟩ := HZ.out k hlt
        have KA0 : ∀ W, Below wr.heap.size wr W → Calls Tryd.prog 148 #[.pointer (some ⟨w1.heap.size + 1, 0, none⟩), .agg #[.string (atS L k).1, uu k]] W fun e w' =>
            ((addB n f (plOf L k) k (atS L k) = true ∧ e = .returned .nilIface ∧ (∃ u' sv', BookR w' w1.heap.size (w1.heap.size + 1) w1.heap.size (.slice rp n rc) (T ++ [(atS L k, u')]) sv') ∧ MapIs w' w1.heap.size (5 * k + 5) (plOf L (k + 1))) ∨ (addB n f (plOf L k) k (atS L k) = false ∧ (∃ ty v, e = .returned (.iface ty v)) ∧ BookR w' w1.heap.size (w1.heap.size + 1) w1.heap.size (.slice rp n rc) T sv ∧ MapIs w' w1.heap.size (5 * k + 5) (plOf L k))) ∧ Below w1.heap.size W w' := fun W hb => by
          have BWW : Below w.heap.size w W := BW.out.trans (hb.mono BW.out.size)
          have h := add_any w1.heap.size (w1.heap.size + 1) w1.heap.size (5 * k) n B B' (.slice rp n rc) sv (uu k) f T (plOf L k) (atS L k) W (HG0.out.on BWW) (HSl.out.below BWW) l1 HF.out (SU.out.below hb) y2 y1 y3 (HK.out.below hb) (HM.out.below hb) (by omega) (by omega) (E1.out.2.2.1.on (HB.out.trans (hb.mono HB.out.size)) (.inl (Nat.le_refl _))) (E1.out.2.2.2.1.on (HB.out.trans (hb.mono HB.out.size)) (.inl (Nat.le_refl _))) (E1.out.2.2.2.2.on (HB.out.trans (hb.mono HB.out.size)) (.inl (Nat.le_refl _)))
          rw [HTl.out] at h
          exact h
        have HOrd : Hid (∀ m, k = m + 1 → wr.cell? ⟨g, m * 2, none⟩ = some (.string (atS L m).1)) := fun m e => ((bcell BW.out).1 _ _ hgw).trans (hc m (by omega)).1
        have HNo : Hid (addB n f (plOf L k) k (atS L k) = false → R = false) := fun e => HAt.out k hlt (okB_add e)
        have HNext : Hid (∀ u', (T ++ [(atS L k, u')]).map Prod.fst = L.take (k + 1)) := fun u' => by rw [List.map_append, HT.out, take_snoc5 hlt]; rfl
        have HYes : Hid (addB n f (plOf L k) k (atS L k) = true → (k = 0 ∨ Op.bytesLess (atS L (k - 1)).1.toList (atS L k).1.toList = true) → ∀ j, j < k + 1 → okB n f L j = true) := fun a b => okB_succ HR.out (okB_yes a b)
        have HOrdN : Hid (∀ m, k = m + 1 → Op.bytesLess (atS L m).1.toList (atS L (m + 1)).1.toList = false → R = false) := fun m e h => by subst e; exact HAt.out (m + 1) hlt (okB_order h)
        have hge : ∀ (t : TypeId) (a b : ByteArray), binOp .geq t (.string a) (.string b) = pure (.bool (!(Op.bytesLess a.toList b.toList))) := geq_text
        rw [hup] at KA0 c1
        clear hc hup y1 y2 y3
        generalize (atS L k).2.length = nu at *
        generalize hpk : (atS L k).1 = pk at *
        obtain ⟨W3, hW⟩ : ∃ W3, W3 = wr.alloc (.cells #[.string pk, .slice up nu uc] 47) := ⟨_, rfl⟩
        have hW3 : Hid (W3 = wr.alloc (.cells #[.string pk, .slice up nu uc] 47)) := hW
        have HB3 : Hid (Below wr.heap.size wr W3) := by show Below _ _ _; rw [hW]; exact (Below.refl _ _).alloc (Nat.le_refl _) _
        have d0 : W3.cell? ⟨wr.heap.size, 0, none⟩ = some (.string pk) := by rw [hW]; simp
        have d1 : W3.cell? ⟨wr.heap.size, 1, none⟩ = some (.slice up nu uc) := by rw [hW]; simp
        have hz3 : wr.heap.size < W3.heap.size := by rw [hW]; simp
        have hwr : w.heap.size < wr.heap.size := Nat.lt_of_lt_of_le z1 hz1r
        have q0 : W3.cell? ⟨w.heap.size, 0, none⟩ = some (.slice none 0 0) := ((bcell HB3.out).1 _ _ hwr).trans r0
        have q1 : W3.cell? ⟨w.heap.size, 1, none⟩ = some (.slice none 0 0) := ((bcell HB3.out).1 _ _ hwr).trans r1
        have q2 : W3.cell? ⟨w.heap.size, 2, none⟩ = some (.map none) := ((bcell HB3.out).1 _ _ hwr).trans r2
        have QF : Hid (∀ o, W3.frozen? ⟨w.heap.size, o, none⟩ = false) := fun o => ((bcell HB3.out).2 _ _ hwr).trans (RF.out o)
        have KA : Hid (∀ W, Below W3.heap.size W3 W → Calls Tryd.prog 148 #[.pointer (some ⟨w1.heap.size + 1, 0, none⟩), .agg #[.string pk, .slice up nu uc]] W fun e w' =>
            ((addB n f (plOf L k) k (atS L k) = true ∧ e = .returned .nilIface ∧ (∃ u' sv', BookR w' w1.heap.size (w1.heap.size + 1) w1.heap.size (.slice rp n rc) (T ++ [(atS L k, u')]) sv') ∧ MapIs w' w1.heap.size (5 * k + 5) (plOf L (k + 1))) ∨ (addB n f (plOf L k) k (atS L k) = false ∧ (∃ ty v, e = .returned (.iface ty v)) ∧ BookR w' w1.heap.size (w1.heap.size + 1) w1.heap.size (.slice rp n rc) T sv ∧ MapIs w' w1.heap.size (5 * k + 5) (plOf L k))) ∧ Below w1.heap.size W w') := fun W hb => KA0 W (HB3.out.trans (hb.mono HB3.out.size))
        have BW3 : Hid (Below w.heap.size w W3) := BW.out.trans (HB3.out.mono BW.out.size)
        have BV3 : Hid (Below w1.heap.size w1 W3) := HB.out.trans (HB3.out.mono hz1r)
        clear hW KA0 HK HM HT HTl hTl r0 r1 r2 RF SU
        go_upto_region 7 with fail
        rw [← hW3.out]
        clear hW3
        cases k with
        | zero =>
          have q5 : decide ((0 : Int) < ((0 : Nat) : Int)) = false := by decide
          clear HOrd HOrdN
          go_region
          go_wp2_with fail
          refine (KA.out _ (by first | exact Below.drew (Below.refl _ _) | exact Below.refl _ _)).mono ?_
          rintro e w4 ⟨hres, hb4⟩
          have B4 : Hid (Below w1.heap.size w1 w4) := BV3.out.trans (by first | exact (Below.drew (Below.refl _ _)).trans hb4 | exact hb4)
          have BW4 : Hid (Below w.heap.size w w4) := B1.out.trans (B4.out.mono (Nat.le_of_lt z1))
          have p0 : w4.cell? ⟨w.heap.size, 0, none⟩ = some (.slice none 0 0) := ((bcell B4.out).1 _ _ z1).trans b0
          have p1 : w4.cell? ⟨w.heap.size, 1, none⟩ = some (.slice none 0 0) := ((bcell B4.out).1 _ _ z1).trans b1
          have p2 : w4.cell? ⟨w.heap.size, 2, none⟩ = some (.map none) := ((bcell B4.out).1 _ _ z1).trans b2
          have PF : Hid (∀ o, w4.frozen? ⟨w.heap.size, o, none⟩ = false) := fun o => ((bcell B4.out).2 _ _ z1).trans (bf.out o)
          clear hb4 q0 q1 q2 d0 d1
          rcases hres with ⟨ha, rfl, ⟨u', sv', hk4⟩, hm4⟩ | ⟨ha, ⟨ety, ev, rfl⟩, -, -⟩
          · have HR2 : Hid (∀ j, j < 0 + 1 → okB n f L j = true) := HYes.out ha (by first | exact .inl rfl | exact .inl trivial)
            have HK4 : Hid (BookR w4 w1.heap.size (w1.heap.size + 1) w1.heap.size (.slice rp n rc) (T ++ [(atS L 0, u')]) sv') := hk4
            have HM4 : Hid (MapIs w4 w1.heap.size (5 * (0 + 1)) (plOf L (0 + 1))) := hm4
            have HT4 := HNext.out u'
            have HT5 : Hid ((T ++ [(atS L 0, u')]).map Prod.fst = L.take (0 + 1)) := HT4
            clear ha hk4 hm4 HT4
            go_wp2
            go_roundw
            case rel => exact ⟨0 + 1, _, sv', by omega, by go_num, HT5, HK4, HM4, B4, HR2⟩
            case measure => simp [intOf]; omega
          · have HQ : Hid (R = false) := HNo.out ha
            have f0 := PF.out 0
            have f1 := PF.out 1
            have f2 := PF.out 2
            have s0 : w4.setCell ⟨w.heap.size, 0, none⟩ (.slice none 0 0) = w4 := setCell_same5 p0
            have s1 : w4.setCell ⟨w.heap.size, 1, none⟩ (.slice none 0 0) = w4 := setCell_same5 p1
            have s2 : w4.setCell ⟨w.heap.size, 2, none⟩ (.map none) = w4 := setCell_same5 p2
            clear ha
            go_wp2
            exact bodyPost_ret (v := .tuple #[.agg #[.slice none 0 0, .slice none 0 0, .map none], .iface ety ev]) (by simp [results, Tryd.results95, go_sem, p0, p1, p2]) rfl ⟨.inr ⟨HQ.out, _, _, rfl⟩, BW4.out⟩
        | succ m =>
          have cm := HOrd.out m rfl
          have cm3 : W3.cell? ⟨g, m * 2, none⟩ = some (.string (atS L m).1) := ((bcell HB3.out).1 _ _ (Nat.lt_trans hgw hwr)).trans cm
          have HON := HOrdN.out m rfl
          have q5 : decide ((0 : Int) < ((m : Int) + 1)) = true := by rw [decide_eq_true_iff]; omega
          have hw1 : IntKind.i64.wrap ((m : Int) + 1 - 1) = m := by
            rw [IntKind.wrap_i64]; omega
          have hw2 : IntKind.i64.wrap (m : Int) = m := by rw [IntKind.wrap_i64]; omega
          have m0 : (0 : Int) ≤ m := by omega
          have m1 : (m : Int) < L.length := by omega
          have HY2 : Hid (addB n f (plOf L (m + 1)) (m + 1) (atS L (m + 1)) = true → Op.bytesLess (atS L m).1.toList pk.toList = true → ∀ j, j < m + 1 + 1 → okB n f L j = true) := fun a b => HYes.out a (.inr b)
          rw [hpk] at HON
          clear HOrd HOrdN HYes cm
          generalize (atS L m).1 = pm at *
          cases hl : Op.bytesLess pm.toList pk.toList with
          | false =>
            have HQ : Hid (R = false) := HON hl
            obtain ⟨ety, ev, hev⟩ := E1.out.2.1.on BV3.out (.inl (Nat.le_refl _))
            have f0 := QF.out 0
            have f1 := QF.out 1
            have f2 := QF.out 2
            have s0 : W3.setCell ⟨w.heap.size, 0, none⟩ (.slice none 0 0) = W3 := setCell_same5 q0
            have s1 : W3.setCell ⟨w.heap.size, 1, none⟩ (.slice none 0 0) = W3 := setCell_same5 q1
            have s2 : W3.setCell ⟨w.heap.size, 2, none⟩ (.map none) = W3 := setCell_same5 q2
            clear HON HY2 KA HNo HNext
            go_region
            go_wp2_with fail
            go_region
            go_wp2
            exact bodyPost_ret (v := .tuple #[.agg #[.slice none 0 0, .slice none 0 0, .map none], .iface ety ev]) (by simp [results, Tryd.results95, go_sem, q0, q1, q2]) rfl ⟨.inr ⟨HQ.out, _, _, rfl⟩, BW3.out.drew.drew⟩
          | true =>
            have HYes : Hid (addB n f (plOf L (m + 1)) (m + 1) (atS L (m + 1)) = true → True → ∀ j, j < m + 1 + 1 → okB n f L j = true) := fun a _ => HY2.out a hl
            clear HON HY2
            go_region
            go_wp2_with fail
            refine (KA.out _ (by first | exact Below.drew (Below.refl _ _) | exact Below.refl _ _)).mono ?_
            rintro e w4 ⟨hres, hb4⟩
            have B4 : Hid (Below w1.heap.size w1 w4) := BV3.out.trans (by first | exact (Below.drew (Below.refl _ _)).trans hb4 | exact hb4)
            have BW4 : Hid (Below w.heap.size w w4) := B1.out.trans (B4.out.mono (Nat.le_of_lt z1))
            have p0 : w4.cell? ⟨w.heap.size, 0, none⟩ = some (.slice none 0 0) := ((bcell B4.out).1 _ _ z1).trans b0
            have p1 : w4.cell? ⟨w.heap.size, 1, none⟩ = some (.slice none 0 0) := ((bcell B4.out).1 _ _ z1).trans b1
            have p2 : w4.cell? ⟨w.heap.size, 2, none⟩ = some (.map none) := ((bcell B4.out).1 _ _ z1).trans b2
            have PF : Hid (∀ o, w4.frozen? ⟨w.heap.size, o, none⟩ = false) := fun o => ((bcell B4.out).2 _ _ z1).trans (bf.out o)
            clear hb4 q0 q1 q2 d0 d1
            rcases hres with ⟨ha, rfl, ⟨u', sv', hk4⟩, hm4⟩ | ⟨ha, ⟨ety, ev, rfl⟩, -, -⟩
            · have HR2 : Hid (∀ j, j < (m + 1) + 1 → okB n f L j = true) := HYes.out ha trivial
              have HK4 : Hid (BookR w4 w1.heap.size (w1.heap.size + 1) w1.heap.size (.slice rp n rc) (T ++ [(atS L (m + 1), u')]) sv') := hk4
              have HM4 : Hid (MapIs w4 w1.heap.size (5 * ((m + 1) + 1)) (plOf L ((m + 1) + 1))) := hm4
              have HT4 := HNext.out u'
              have HT5 : Hid ((T ++ [(atS L (m + 1), u')]).map Prod.fst = L.take ((m + 1) + 1)) := HT4
              clear ha hk4 hm4 HT4
              go_wp2
              go_roundw
              case rel => exact ⟨(m + 1) + 1, _, sv', by omega, by go_num, HT5, HK4, HM4, B4, HR2⟩
              case measure => simp [intOf]; omega
            · have HQ : Hid (R = false) := HNo.out ha
              have f0 := PF.out 0
              have f1 := PF.out 1
              have f2 := PF.out 2
              have s0 : w4.setCell ⟨w.heap.size, 0, none⟩ (.slice none 0 0) = w4 := setCell_same5 p0
              have s1 : w4.setCell ⟨w.heap.size, 1, none⟩ (.slice none 0 0) = w4 := setCell_same5 p1
              have s2 : w4.setCell ⟨w.heap.size, 2, none⟩ (.map none) = w4 := setCell_same5 p2
              clear ha
              go_wp2
              exact bodyPost_ret (v := .tuple #[.agg #[.slice none 0 0, .slice none 0 0, .map none], .iface ety ev]) (by simp [results, Tryd.results95, go_sem, p0, p1, p2]) rfl ⟨.inr ⟨HQ.out, _, _, rfl⟩, BW4.out⟩
      · obtain rfl : k = L.length := by omega
        have HQ : Hid (R = true) := HAll1.out HR.out
        have hl6 : L.length ≤ 6 := okB_six HR.out
        have x0 := HK.out.c0
        have x1 := HK.out.c1
        have x2 := HK.out.c2
        have f0 := RF.out 0
        have f1 := RF.out 1
        have f2 := RF.out 2
        obtain ⟨sp, sc, rfl⟩ : ∃ p c, sv = .slice p T.length c := by
          obtain ⟨_, ⟨rfl, h0⟩ | ⟨g, cap, cur, rfl, _⟩⟩ := HK.out.own
          · exact ⟨none, 0, by rw [h0]⟩
          · exact ⟨_, _, rfl⟩
        have HFin : Hid (∀ x y z : Value, BookIs (((wr.setCell ⟨w.heap.size, 0, none⟩ x).setCell ⟨w.heap.size, 1, none⟩ y).setCell ⟨w.heap.size, 2, none⟩ z) w.heap.size (.agg #[.slice rp n rc, .slice sp T.length sc, .map (some w1.heap.size)]) (.slice rp n rc) L) := fun x y z => ⟨w1.heap.size, _, _, T, _, Nat.le_of_lt z1, rfl, by rw [HT.out, List.take_length], ((HK.out.setLow z1).setLow z1).setLow z1, ((HM.out.mono (by omega)).far (by omega)).far (by omega) |>.far (by omega)⟩
        have HFB : Hid (∀ x y z : Value, Below w.heap.size w (((wr.setCell ⟨w.heap.size, 0, none⟩ x).setCell ⟨w.heap.size, 1, none⟩ y).setCell ⟨w.heap.size, 2, none⟩ z)) := fun x y z => ((BW.out.setCell (Nat.le_refl _) _).setCell (Nat.le_refl _) _).setCell (Nat.le_refl _) _
        go_wp2
        exact bodyPost_ret (v := .tuple #[.agg #[.slice rp n rc, .slice sp T.length sc, .map (some w1.heap.size)], .nilIface]) (by simp [results, Tryd.results95, go_sem, r0, r1, r2]) rfl ⟨.inl ⟨HQ.out, _, rfl, HFin.out _ _ _⟩, HFB.out _ _ _⟩
end Go.Proofs.YtfoekelhcmlagaaDoor

/- The law FnExactSetsRight, walked; the walk of the program's SetsRight. -/
namespace Go.Proofs.YtfoekelhcmlagaaDoor
open Go.RowKit Go.Maps

theorem bookR_slice {w : World} {B0 b bm : Nat} {rv sv : Value} {T : List (SetL × Value)} (h : BookR w B0 b bm rv T sv) : ∃ p c, sv = .slice p T.length c := by
  obtain ⟨_, ⟨rfl, h0⟩ | ⟨g, cap, cur, rfl, _⟩⟩ := h.own
  · exact ⟨none, 0, by rw [h0]⟩
  · exact ⟨_, _, rfl⟩
set_option maxRecDepth 10000 in
set_option maxHeartbeats 4000000 in
theorem setsRight_any (rv lv : Value) (n B B' : Nat) (f : Nat → ByteArray) (L : List SetL) (w : World) (hG : MaxI w) (hE : ErrsI w) (hr : SliceS w B rv n f) (l1 : n ≤ 1048576) (hf : ∀ i, i < n → (f i).size ≤ 1048576) (hs : SliceT w B' lv L) (hn : L.length ≤ 1048576) (hz : ∀ j, j < L.length → szS (atS L j)) :
    Calls Tryd.prog 33 #[rv, lv] w fun e w' => e = .returned (.bool (setsB n f L)) ∧ Below w.heap.size w w' := by
  have KB : Hid (Calls Tryd.prog 95 #[rv, lv] w fun e w' => ((setsB n f L = true ∧ ∃ v, e = .returned (.tuple #[v, .nilIface]) ∧ BookIs w' w.heap.size v rv L) ∨ (setsB n f L = false ∧ ∃ ty v, e = .returned (.tuple #[.agg #[.slice none 0 0, .slice none 0 0, .map none], .iface ty v]))) ∧ Below w.heap.size w w') := bookOf_any rv lv n B B' f L w hG hE hr l1 hf hs hn hz
  obtain ⟨rp, rc, rfl, -⟩ := hr
  clear hG hE hf hs hz
  generalize setsB n f L = R at *
  go_enter Tryd.func33, Tryd.ntmps33
  go_wp2_with fail
  refine KB.out.mono ?_
  rintro e w1 ⟨⟨rfl, v, rfl, hb⟩ | ⟨rfl, ty, v, rfl⟩, hb1⟩
  · obtain ⟨B1, b, bm, T, sv, -, rfl, -, hk, -⟩ := hb
    obtain ⟨sp, sc, rfl⟩ := bookR_slice hk
    clear hk
    go_wp2
    go_ret
    exact ⟨rfl, by first | exact hb1 | exact hb1.alloc hb1.size _⟩
  · go_wp2
    go_ret
    exact ⟨rfl, by first | exact hb1 | exact hb1.alloc hb1.size _⟩
set_option maxRecDepth 10000 in
set_option maxHeartbeats 4000000 in
theorem lawSetsRight_any (a0 : Option Addr) (n cap0 : Nat) (f : Nat → ByteArray) (a1 : Option Addr) (cap1 : Nat) (L : List SetL) (w : World) (hG : MaxI w) (hE : ErrsI w) (hr0 : StrRow w a0 n f) (hn0 : n ≤ maxLen) (hr1 : SetRow w a1 L) (hn1 : L.length ≤ maxLen) :
    Calls Tryd.prog 4 #[.slice a0 n cap0, .slice a1 L.length cap1] w fun e w' => e = .returned (.bool true) ∧ Below w.heap.size w w' := by
  have HR0 : Hid (StrRow w a0 n f) := hr0
  have HR1 : Hid (SetRow w a1 L) := hr1
  have HG : Hid (MaxI w) := hG
  have HE : Hid (ErrsI w) := hE
  clear hr0 hr1 hG hE
  go_enter Tryd.func4, Tryd.ntmps4
  go_wp2_with fail
  refine (szStringS_any a0 n cap0 f 1048576 _ HR0.out hn0 (by decide) (by decide)).mono ?_
  rintro e w0 ⟨⟨r, rfl, hr⟩, rfl⟩
  rcases hr with hr | ⟨r0, r1, hl, hf⟩
  · go_wp2
    go_ret
    exact ⟨rfl, Below.refl _ _⟩
  have q : decide (r < 0) = false := by rw [decide_eq_false_iff_not]; omega
  have hl2 : n ≤ 1048576 := by omega
  have HF : Hid (∀ i, i < n → (f i).size ≤ 1048576) := fun i hi => by have := hf i hi; omega
  clear hf hl
  go_wp2_with fail
  refine (szSiteSetS_any a1 cap1 L r _ HR1.out hn1 r0 (by omega)).mono ?_
  rintro e w1 ⟨⟨r', rfl, hr'⟩, hb1⟩
  have B1 : Hid (Below w0.heap.size w0 w1) := hb1
  clear hb1 r0 r1
  rcases hr' with hr' | ⟨r0, r1, hL, hz⟩
  · go_wp2
    go_ret
    exact ⟨rfl, B1.out⟩
  have q' : decide (r' < 0) = false := by rw [decide_eq_false_iff_not]; omega
  have HZ : Hid (∀ i, i < L.length → szS (atS L i)) := hz
  clear hz r0 r1
  have KT0 : Hid (∀ W, Below w0.heap.size w0 W → Calls Tryd.prog 31 #[.slice a0 n cap0] W fun e w' => ∃ v, e = .returned v ∧ SliceS w' W.heap.size v n f ∧ Below W.heap.size W w') := fun W hb => toStringS_any a0 n cap0 f W (HR0.out.below hb) hl2
  have KT1 : Hid (∀ W, Below w0.heap.size w0 W → Calls Tryd.prog 32 #[.slice a1 L.length cap1] W fun e w' => ∃ v, e = .returned v ∧ SliceT w' W.heap.size v L ∧ Below W.heap.size W w') := fun W hb => toSiteSetS_any a1 cap1 L W (HR1.out.below hb) hL (fun i hi => (HZ.out i hi).2.1)
  have KS : Hid (∀ (v v' : Value) (B B' : Nat) (W : World), SliceS W B v n f → SliceT W B' v' L → Calls Tryd.prog 30 #[v, v'] W fun e w' => e = .returned (.bool (setsB n f L)) ∧ Below W.heap.size W w') := fun v v' B B' W a b => specSetsRight_any v n B f v' L B' W a hl2 HF.out b hL (fun j hj => (HZ.out j hj).2.1)
  have KI : Hid (∀ (v v' : Value) (B B' : Nat) (W : World), Below w0.heap.size w0 W → SliceS W B v n f → SliceT W B' v' L → Calls Tryd.prog 33 #[v, v'] W fun e w' => e = .returned (.bool (setsB n f L)) ∧ Below W.heap.size W w') := fun v v' B B' W hb a b => setsRight_any v v' n B B' f L W (HG.out.on hb) (HE.out.below hb) a hl2 HF.out b hL HZ.out
  have KE1 : Hid (∀ (v v' : Value) (B B' : Nat) (W : World), SliceT W B v L → SliceT W B' v' L → Calls Tryd.prog 35 #[v, v'] W fun e w' => e = .returned (.bool true) ∧ Below W.heap.size W w') := fun v v' B B' W a b => eqSiteSetS_any v v' L B B' W a b hL (fun i hi => (HZ.out i hi).2.1)
  clear HG HE HF HZ HR0 HR1
  generalize setsB n f L = d at *
  go_wp2_with fail
  refine (KT0.out _ B1.out).mono ?_
  rintro e w2 ⟨v2, rfl, s2, hb2⟩
  have B2 : Hid (Below w0.heap.size w0 w2) := B1.out.trans (hb2.mono B1.out.size)
  have S2 : Hid (SliceS w2 w1.heap.size v2 n f) := s2
  clear s2 hb2
  go_wp2_with fail
  refine (KT1.out _ B2.out).mono ?_
  rintro e w3 ⟨v3, rfl, s3, hb3⟩
  have B3 : Hid (Below w0.heap.size w0 w3) := B2.out.trans (hb3.mono B2.out.size)
  have S2_3 : Hid (SliceS w3 w1.heap.size v2 n f) := S2.out.below hb3
  have S3 : Hid (SliceT w3 w2.heap.size v3 L) := s3
  clear s3 hb3 S2
  go_wp2_with fail
  refine (KS.out _ _ _ _ _ S2_3.out S3.out).mono ?_
  rintro e w4 ⟨rfl, hb4⟩
  have B4 : Hid (Below w0.heap.size w0 w4) := B3.out.trans (hb4.mono B3.out.size)
  clear hb4 S2_3 S3 KS
  go_wp2_with fail
  refine (KT0.out _ B4.out).mono ?_
  rintro e w5 ⟨v5, rfl, s5, hb5⟩
  have B5 : Hid (Below w0.heap.size w0 w5) := B4.out.trans (hb5.mono B4.out.size)
  have S5 : Hid (SliceS w5 w4.heap.size v5 n f) := s5
  clear s5 hb5
  go_wp2_with fail
  refine (KT1.out _ B5.out).mono ?_
  rintro e w6 ⟨v6, rfl, s6, hb6⟩
  have B6 : Hid (Below w0.heap.size w0 w6) := B5.out.trans (hb6.mono B5.out.size)
  have S5_6 : Hid (SliceS w6 w4.heap.size v5 n f) := S5.out.below hb6
  have S6 : Hid (SliceT w6 w5.heap.size v6 L) := s6
  clear s6 hb6 S5
  go_wp2_with fail
  refine (KI.out _ _ _ _ _ B6.out S5_6.out S6.out).mono ?_
  rintro e w7 ⟨rfl, hb7⟩
  have B7 : Hid (Below w0.heap.size w0 w7) := B6.out.trans (hb7.mono B6.out.size)
  have S5_7 : Hid (SliceS w7 w4.heap.size v5 n f) := S5_6.out.below hb7
  have S6_7 : Hid (SliceT w7 w5.heap.size v6 L) := S6.out.below hb7
  clear hb7 S5_6 S6 KI
  cases d
  all_goals
    go_wp2_with fail
    refine (KT0.out _ B7.out).mono ?_
    rintro e w8 ⟨v8, rfl, s8, hb8⟩
    have B8 : Hid (Below w0.heap.size w0 w8) := B7.out.trans (hb8.mono B7.out.size)
    have S5_8 := S5_7.out.below hb8
    have S6_8 : Hid (SliceT w8 w5.heap.size v6 L) := S6_7.out.below hb8
    clear hb8
    go_wp2_with fail
    refine (eqStringS_any v5 v8 n _ _ f _ S5_8 s8 (by omega)).mono ?_
    rintro e w9 ⟨rfl, hb9⟩
    have B9 : Hid (Below w0.heap.size w0 w9) := B8.out.trans (hb9.mono B8.out.size)
    have S6_9 : Hid (SliceT w9 w5.heap.size v6 L) := S6_8.out.below hb9
    clear hb9 S5_8 s8
    go_wp2_with fail
    refine (KT1.out _ B9.out).mono ?_
    rintro e w10 ⟨v10, rfl, s10, hb10⟩
    have B10 : Hid (Below w0.heap.size w0 w10) := B9.out.trans (hb10.mono B9.out.size)
    have S6_10 : Hid (SliceT w10 w5.heap.size v6 L) := S6_9.out.below hb10
    clear hb10
    go_wp2_with fail
    refine (KE1.out _ _ _ _ _ S6_10.out s10).mono ?_
    rintro e w11 ⟨rfl, hb11⟩
    go_wp2
    go_ret
    exact ⟨rfl, B10.out.trans (hb11.mono B10.out.size)⟩
end Go.Proofs.YtfoekelhcmlagaaDoor

/- The walks of the program's placeOf and Related. -/
namespace Go.Proofs.YtfoekelhcmlagaaDoor
open Go.RowKit Go.Maps

theorem cutHttps_call (s : ByteArray) (w : World) : Calls Tryd.prog 85 #[.string s, .string ⟨#[104, 116, 116, 112, 115, 58, 47, 47]⟩] w fun e w' => (∃ t, e = .returned (.tuple #[.string t, .bool (Lib.hasPrefix s.data.toList httpsT.data.toList)]) ∧ (Lib.hasPrefix s.data.toList httpsT.data.toList = true → t = s.extract 8 s.size)) ∧ w' = w := by
  refine (Any.strings_CutPrefix Tryd.lays103 s httpsT w).mono ?_
  rintro e w' ⟨rfl, rfl⟩
  exact ⟨⟨_, rfl, fun h => trim_rest h⟩, rfl⟩
set_option maxRecDepth 10000 in
set_option maxHeartbeats 4000000 in
theorem placeOf5_any (b bm N : Nat) (L : List SetL) (s : ByteArray) (w : World) (hb2 : w.cell? ⟨b, 2, none⟩ = some (.map (some bm))) (hm : MapIs w bm N (plOf L L.length)) (hs : s.size ≤ 1048576) :
    Calls Tryd.prog 99 #[.pointer (some ⟨b, 0, none⟩), .string s] w fun e w' => (∃ c : Int, e = .returned (.tuple #[.int .i64 c, .bool (plA L s).isSome]) ∧ ∀ i, plA L s = some i → c = (i : Int)) ∧ w' = w := by
  have KC : Hid (Calls Tryd.prog 85 #[.string s, .string ⟨#[104, 116, 116, 112, 115, 58, 47, 47]⟩] w fun e w' => (∃ t, e = .returned (.tuple #[.string t, .bool (Lib.hasPrefix s.data.toList httpsT.data.toList)]) ∧ (Lib.hasPrefix s.data.toList httpsT.data.toList = true → t = s.extract 8 s.size)) ∧ w' = w) := cutHttps_call s w
  have HA : Hid (plA L s = if Lib.hasPrefix s.data.toList httpsT.data.toList = true then plOf L L.length (s.extract 8 s.size) else none) := rfl
  have hz : (s.extract 8 s.size).size ≤ maxLen := by rw [ByteArray.size_extract]; unfold maxLen; omega
  have HZ : Hid ((s.extract 8 s.size).size ≤ maxLen) := hz
  clear hz
  obtain ⟨DD, hown, hview⟩ := hm
  have HV := hview (s.extract 8 s.size)
  have HV1 : Hid (Maps.has DD (.string (s.extract 8 s.size).data.toList) = (plOf L L.length (s.extract 8 s.size)).isSome) := HV.1
  have HV2 : Hid (∀ p, plOf L L.length (s.extract 8 s.size) = some p → DD.atKey (.string (s.extract 8 s.size).data.toList) (.lit (.int .i64 0)) = .lit (.int .i64 (p : Int))) := HV.2
  have HOW : Hid (w.ownsMap Tryd.prog 9 (plainElem Tryd.prog 3) bm N DD) := hown
  clear hown hview HV
  generalize plA L s = P at *
  generalize plOf L L.length (s.extract 8 s.size) = Q at *
  generalize Lib.hasPrefix s.data.toList httpsT.data.toList = hp at *
  go_enter Tryd.func99, Tryd.ntmps99
  go_wp2_with fail
  refine KC.out.mono ?_
  rintro e w1 ⟨⟨t, rfl, ht⟩, rfl⟩
  cases hp with
  | false =>
    have HP : Hid (P = none) := HA.out
    clear ht
    go_wp2
    go_ret2
    exact ⟨⟨0, by rw [HP.out]; rfl, fun i hi => by rw [HP.out] at hi; cases hi⟩, rfl⟩
  | true =>
    have HP : Hid (P = Q) := HA.out
    obtain rfl := ht rfl
    generalize s.extract 8 s.size = d at *
    have hh := HV1.out
    generalize hq : Q.isSome = qs at *
    go_wp2_with (at_lookup; go_must (refine wpList_lookup_own_ok_int _ rfl _ _ 105 rfl 9 3 .i64 strKeyed Tryd.underlying105 Tryd.underlying3 (zeroI _) bm N DD rfl HOW.out _ _ rfl (Go.WideMaps.keyOf_string_mk Tryd.underlying9 HZ.out) ?_); intro c hat hwc)
    have HC : Hid (∀ i, P = some i → c = (i : Int)) := fun i hi => by
      rw [HP.out] at hi
      have h2 := HV2.out i hi
      rw [hat] at h2
      injection h2 with h2
      injection h2
    go_ret2
    exact ⟨⟨c, by rw [HP.out, hq]; rfl, HC.out⟩, rfl⟩
set_option maxRecDepth 10000 in
set_option maxHeartbeats 4000000 in
theorem related_any (rv lv : Value) (n B B' : Nat) (f : Nat → ByteArray) (L : List SetL) (a b : ByteArray) (w : World) (hG : MaxI w) (hE : ErrsI w) (hr : SliceS w B rv n f) (l1 : n ≤ 1048576) (hf : ∀ i, i < n → (f i).size ≤ 1048576) (hs : SliceT w B' lv L) (hn : L.length ≤ 1048576) (hz : ∀ j, j < L.length → szS (atS L j)) (ha : a.size ≤ 1048576) (hb : b.size ≤ 1048576) :
    Calls Tryd.prog 46 #[rv, lv, .string a, .string b] w fun e w' => e = .returned (.bool (relatedB n f L a b)) ∧ Below w.heap.size w w' := by
  have KB : Hid (Calls Tryd.prog 95 #[rv, lv] w fun e w' => ((setsB n f L = true ∧ ∃ v, e = .returned (.tuple #[v, .nilIface]) ∧ BookIs w' w.heap.size v rv L) ∨ (setsB n f L = false ∧ ∃ ty v, e = .returned (.tuple #[.agg #[.slice none 0 0, .slice none 0 0, .map none], .iface ty v]))) ∧ Below w.heap.size w w') := bookOf_any rv lv n B B' f L w hG hE hr l1 hf hs hn hz
  have KD : Hid (∀ W, Below w.heap.size w W → Calls Tryd.prog 103 #[rv, .string (a.extract 8 a.size)] W fun e w' => e = .returned (.bool (domR n f (a.extract 8 a.size))) ∧ Below W.heap.size W w') := fun W hb => domainRight_any rv n B f _ W (hG.on hb) (hr.below hb) l1 hf (by rw [ByteArray.size_extract]; omega)
  have HE : Hid (relatedB n f L a b = (setsB n f L && relB n f L a b)) := rfl
  have HR : Hid (setsB n f L = true → relB n f L a b = relI n f L a b) := fun h => (relI_right h a b).symm
  have HI1 : Hid ((a.toList == b.toList) = true → relI n f L a b = (Lib.hasPrefix a.data.toList httpsT.data.toList && domR n f (a.extract 8 a.size))) := fun h => relI_one h
  have HI2 : Hid ((a.toList == b.toList) = false → (∀ i j, plA L a = some i → plA L b = some j → relI n f L a b = (i == j)) ∧ (plA L a = none → relI n f L a b = false) ∧ (plA L b = none → relI n f L a b = false)) := fun h => ⟨fun i j h1 h2 => relI_two h h1 h2, fun h1 => relI_noA h h1, fun h2 => relI_noB h h2⟩
  obtain ⟨rp, rc, rfl, -⟩ := hr
  obtain ⟨uu, ⟨lp, lc, rfl, -⟩, -⟩ := hs
  clear hG hE hf hz
  generalize relatedB n f L a b = R at *
  generalize relB n f L a b = rb at *
  generalize relI n f L a b = ri at *
  generalize hss : setsB n f L = ss at *
  clear hss
  go_enter Tryd.func46, Tryd.ntmps46
  go_wp2_with fail
  refine KB.out.mono ?_
  rintro e w1 ⟨⟨rfl, v, rfl, hbk⟩ | ⟨rfl, ty, v, rfl⟩, hb1⟩
  case inr =>
    have HQ : Hid (R = false) := by show _ = _; rw [HE.out]; rfl
    have B1 : Hid (∀ o, Below w.heap.size w (w1.alloc o)) := fun o => hb1.alloc hb1.size o
    clear hb1
    go_wp2
    go_ret
    exact ⟨ret_bool HQ.out.symm, B1.out _⟩
  case inl =>
    obtain ⟨B1, bb, bm, T, sv, -, rfl, -, hk, hm⟩ := hbk
    obtain ⟨sp, sc, rfl⟩ := bookR_slice hk
    have HQ0 : Hid (R = ri) := by show _ = _; rw [HE.out, ← HR.out rfl]; rfl
    obtain ⟨W2, hW⟩ : ∃ W2, W2 = w1.alloc (.cells #[.slice rp n rc, .slice sp T.length sc, .map (some bm)] 107) := ⟨_, rfl⟩
    have hW2 : Hid (W2 = w1.alloc (.cells #[.slice rp n rc, .slice sp T.length sc, .map (some bm)] 107)) := hW
    have BW : Hid (Below w.heap.size w W2) := by show Below _ _ _; rw [hW]; exact hb1.alloc hb1.size _
    have M2 : Hid (MapIs W2 bm 30 (plOf L L.length)) := by show MapIs _ _ _ _; rw [hW]; exact hm.below ((Below.refl _ _).alloc (Nat.le_refl _) _)
    have c2 : W2.cell? ⟨w1.heap.size, 2, none⟩ = some (.map (some bm)) := by rw [hW]; simp
    have KA : Hid (Calls Tryd.prog 99 #[.pointer (some ⟨w1.heap.size, 0, none⟩), .string a] W2 fun e w' => (∃ c : Int, e = .returned (.tuple #[.int .i64 c, .bool (plA L a).isSome]) ∧ ∀ i, plA L a = some i → c = (i : Int)) ∧ w' = W2) := placeOf5_any w1.heap.size bm 30 L a W2 c2 M2.out ha
    have KP : Hid (Calls Tryd.prog 99 #[.pointer (some ⟨w1.heap.size, 0, none⟩), .string b] W2 fun e w' => (∃ c : Int, e = .returned (.tuple #[.int .i64 c, .bool (plA L b).isSome]) ∧ ∀ i, plA L b = some i → c = (i : Int)) ∧ w' = W2) := placeOf5_any w1.heap.size bm 30 L b W2 c2 M2.out hb
    have KC : Hid (Calls Tryd.prog 85 #[.string a, .string ⟨#[104, 116, 116, 112, 115, 58, 47, 47]⟩] W2 fun e w' => (∃ t, e = .returned (.tuple #[.string t, .bool (Lib.hasPrefix a.data.toList httpsT.data.toList)]) ∧ (Lib.hasPrefix a.data.toList httpsT.data.toList = true → t = a.extract 8 a.size)) ∧ w' = W2) := cutHttps_call a W2
    have KD2 : Hid (Calls Tryd.prog 103 #[.slice rp n rc, .string (a.extract 8 a.size)] W2 fun e w' => e = .returned (.bool (domR n f (a.extract 8 a.size))) ∧ Below W2.heap.size W2 w') := KD.out W2 BW.out
    clear hW hk hm hb1 KB KD HR HE
    go_upto_region 2 with fail
    rw [← hW2.out]
    clear hW2
    cases hab : (a.toList == b.toList) with
    | true =>
      have HI : Hid (ri = (Lib.hasPrefix a.data.toList httpsT.data.toList && domR n f (a.extract 8 a.size))) := HI1.out hab
      clear HI1 HI2 KA KP
      generalize Lib.hasPrefix a.data.toList httpsT.data.toList = hp at *
      generalize domR n f (a.extract 8 a.size) = bd at *
      go_wp2_with fail
      refine KC.out.mono ?_
      rintro e w3 ⟨⟨t, rfl, ht⟩, rfl⟩
      cases hp with
      | false =>
        clear ht
        go_wp2
        go_ret
        exact ⟨ret_bool (by rw [HQ0.out, HI.out]; rfl), BW.out⟩
      | true =>
        obtain rfl := ht rfl
        clear ht
        go_wp2_with fail
        refine KD2.out.mono ?_
        rintro e w4 ⟨rfl, hb4⟩
        go_wp2
        go_ret
        exact ⟨ret_bool (by rw [HQ0.out, HI.out]; rfl), BW.out.trans (hb4.mono BW.out.size)⟩
    | false =>
      obtain ⟨h1, h2, h3⟩ := HI2.out hab
      have HA : Hid (∀ i j, plA L a = some i → plA L b = some j → ri = (i == j)) := h1
      have HB1 : Hid (plA L a = none → ri = false) := h2
      have HB2 : Hid (plA L b = none → ri = false) := h3
      clear h1 h2 h3 HI1 HI2 KC KD2
      generalize plA L a = pa at *
      generalize plA L b = pb at *
      go_wp2_with fail
      refine KA.out.mono ?_
      rintro e w3 ⟨⟨ca, rfl, hca⟩, rfl⟩
      go_wp2_with fail
      refine KP.out.mono ?_
      rintro e w4 ⟨⟨cb, rfl, hcb⟩, rfl⟩
      cases pa with
      | none =>
        have HQ : Hid (ri = false) := HB1.out rfl
        clear hca hcb
        go_wp2
        go_ret
        exact ⟨ret_bool (by rw [HQ0.out, HQ.out]), BW.out⟩
      | some i =>
        have hci : ca = (i : Int) := hca i rfl
        cases pb with
        | none =>
          have HQ : Hid (ri = false) := HB2.out rfl
          clear hca hcb hci
          go_wp2
          go_ret
          exact ⟨ret_bool (by rw [HQ0.out, HQ.out]), BW.out⟩
        | some j =>
          have hcj : cb = (j : Int) := hcb j rfl
          have HQ : Hid (ri = (i == j)) := HA.out i j rfl rfl
          subst hci hcj
          have HX : Hid (((i : Int) == (j : Int)) = (i == j)) := by show _ = _; rw [Bool.eq_iff_iff, beq_iff_eq, beq_iff_eq]; omega
          clear hca hcb
          go_wp2
          go_ret
          exact ⟨ret_bool (by rw [HQ0.out, HQ.out, HX.out]), BW.out⟩
end Go.Proofs.YtfoekelhcmlagaaDoor

/- The law FnExactRelated, walked. -/
namespace Go.Proofs.YtfoekelhcmlagaaDoor
open Go.RowKit Go.Maps

set_option maxRecDepth 10000 in
set_option maxHeartbeats 4000000 in
theorem lawRelated_any (a0 : Option Addr) (n cap0 : Nat) (f : Nat → ByteArray) (a1 : Option Addr) (cap1 : Nat) (L : List SetL) (a b : ByteArray) (w : World) (hG : MaxI w) (hE : ErrsI w) (hr0 : StrRow w a0 n f) (hn0 : n ≤ maxLen) (hr1 : SetRow w a1 L) (hn1 : L.length ≤ maxLen) :
    Calls Tryd.prog 7 #[.slice a0 n cap0, .slice a1 L.length cap1, .string a, .string b] w fun e w' => e = .returned (.bool true) ∧ Below w.heap.size w w' := by
  have HR0 : Hid (StrRow w a0 n f) := hr0
  have HR1 : Hid (SetRow w a1 L) := hr1
  have HG : Hid (MaxI w) := hG
  have HE : Hid (ErrsI w) := hE
  clear hr0 hr1 hG hE
  by_cases hA : 1048576 < a.size
  · go_enter Tryd.func7, Tryd.ntmps7
    go_wp2
    go_ret
    exact ⟨rfl, Below.refl _ _⟩
  have qA : decide ((1048576 : Int) < (a.size : Int)) = false := by rw [decide_eq_false_iff_not]; omega
  by_cases hB : 1048576 < b.size
  · go_enter Tryd.func7, Tryd.ntmps7
    go_wp2
    go_ret
    exact ⟨rfl, Below.refl _ _⟩
  have qB : decide ((1048576 : Int) < (b.size : Int)) = false := by rw [decide_eq_false_iff_not]; omega
  go_enter Tryd.func7, Tryd.ntmps7
  go_wp2_with fail
  refine (szStringS_any a0 n cap0 f 1048576 _ HR0.out hn0 (by decide) (by decide)).mono ?_
  rintro e w0 ⟨⟨r, rfl, hr⟩, rfl⟩
  rcases hr with hr | ⟨r0, r1, hl, hf⟩
  · go_wp2
    go_ret
    exact ⟨rfl, Below.refl _ _⟩
  have q : decide (r < 0) = false := by rw [decide_eq_false_iff_not]; omega
  have hl2 : n ≤ 1048576 := by omega
  have HF : Hid (∀ i, i < n → (f i).size ≤ 1048576) := fun i hi => by have := hf i hi; omega
  clear hf hl
  go_wp2_with fail
  refine (szSiteSetS_any a1 cap1 L r _ HR1.out hn1 r0 (by omega)).mono ?_
  rintro e w1 ⟨⟨r', rfl, hr'⟩, hb1⟩
  have B1 : Hid (Below w0.heap.size w0 w1) := hb1
  clear hb1 r0 r1
  rcases hr' with hr' | ⟨r0, r1, hL, hz⟩
  · go_wp2
    go_ret
    exact ⟨rfl, B1.out⟩
  have q' : decide (r' < 0) = false := by rw [decide_eq_false_iff_not]; omega
  have HZ : Hid (∀ i, i < L.length → szS (atS L i)) := hz
  clear hz r0 r1
  have KT0 : Hid (∀ W, Below w0.heap.size w0 W → Calls Tryd.prog 31 #[.slice a0 n cap0] W fun e w' => ∃ v, e = .returned v ∧ SliceS w' W.heap.size v n f ∧ Below W.heap.size W w') := fun W hb => toStringS_any a0 n cap0 f W (HR0.out.below hb) hl2
  have KT1 : Hid (∀ W, Below w0.heap.size w0 W → Calls Tryd.prog 32 #[.slice a1 L.length cap1] W fun e w' => ∃ v, e = .returned v ∧ SliceT w' W.heap.size v L ∧ Below W.heap.size W w') := fun W hb => toSiteSetS_any a1 cap1 L W (HR1.out.below hb) hL (fun i hi => (HZ.out i hi).2.1)
  have KS : Hid (∀ (v v' : Value) (B B' : Nat) (W : World), SliceS W B v n f → SliceT W B' v' L → Calls Tryd.prog 45 #[v, v', .string a, .string b] W fun e w' => e = .returned (.bool (relatedB n f L a b)) ∧ Below W.heap.size W w') := fun v v' B B' W x y => specRelated_any v v' n B B' f L a b W x hl2 HF.out y hL (fun j hj => (HZ.out j hj).2.1)
  have KI : Hid (∀ (v v' : Value) (B B' : Nat) (W : World), Below w0.heap.size w0 W → SliceS W B v n f → SliceT W B' v' L → Calls Tryd.prog 46 #[v, v', .string a, .string b] W fun e w' => e = .returned (.bool (relatedB n f L a b)) ∧ Below W.heap.size W w') := fun v v' B B' W hb x y => related_any v v' n B B' f L a b W (HG.out.on hb) (HE.out.below hb) x hl2 HF.out y hL HZ.out (by omega) (by omega)
  have KE1 : Hid (∀ (v v' : Value) (B B' : Nat) (W : World), SliceT W B v L → SliceT W B' v' L → Calls Tryd.prog 35 #[v, v'] W fun e w' => e = .returned (.bool true) ∧ Below W.heap.size W w') := fun v v' B B' W x y => eqSiteSetS_any v v' L B B' W x y hL (fun i hi => (HZ.out i hi).2.1)
  clear HG HE HF HZ HR0 HR1
  generalize relatedB n f L a b = d at *
  go_wp2_with fail
  refine (KT0.out _ B1.out).mono ?_
  rintro e w2 ⟨v2, rfl, s2, hb2⟩
  have B2 : Hid (Below w0.heap.size w0 w2) := B1.out.trans (hb2.mono B1.out.size)
  have S2 : Hid (SliceS w2 w1.heap.size v2 n f) := s2
  clear s2 hb2
  go_wp2_with fail
  refine (KT1.out _ B2.out).mono ?_
  rintro e w3 ⟨v3, rfl, s3, hb3⟩
  have B3 : Hid (Below w0.heap.size w0 w3) := B2.out.trans (hb3.mono B2.out.size)
  have S2_3 : Hid (SliceS w3 w1.heap.size v2 n f) := S2.out.below hb3
  have S3 : Hid (SliceT w3 w2.heap.size v3 L) := s3
  clear s3 hb3 S2
  go_wp2_with fail
  refine (KS.out _ _ _ _ _ S2_3.out S3.out).mono ?_
  rintro e w4 ⟨rfl, hb4⟩
  have B4 : Hid (Below w0.heap.size w0 w4) := B3.out.trans (hb4.mono B3.out.size)
  clear hb4 S2_3 S3 KS
  go_wp2_with fail
  refine (KT0.out _ B4.out).mono ?_
  rintro e w5 ⟨v5, rfl, s5, hb5⟩
  have B5 : Hid (Below w0.heap.size w0 w5) := B4.out.trans (hb5.mono B4.out.size)
  have S5 : Hid (SliceS w5 w4.heap.size v5 n f) := s5
  clear s5 hb5
  go_wp2_with fail
  refine (KT1.out _ B5.out).mono ?_
  rintro e w6 ⟨v6, rfl, s6, hb6⟩
  have B6 : Hid (Below w0.heap.size w0 w6) := B5.out.trans (hb6.mono B5.out.size)
  have S5_6 : Hid (SliceS w6 w4.heap.size v5 n f) := S5.out.below hb6
  have S6 : Hid (SliceT w6 w5.heap.size v6 L) := s6
  clear s6 hb6 S5
  go_wp2_with fail
  refine (KI.out _ _ _ _ _ B6.out S5_6.out S6.out).mono ?_
  rintro e w7 ⟨rfl, hb7⟩
  have B7 : Hid (Below w0.heap.size w0 w7) := B6.out.trans (hb7.mono B6.out.size)
  have S5_7 : Hid (SliceS w7 w4.heap.size v5 n f) := S5_6.out.below hb7
  have S6_7 : Hid (SliceT w7 w5.heap.size v6 L) := S6.out.below hb7
  clear hb7 S5_6 S6 KI
  cases d
  all_goals
    go_wp2_with fail
    refine (KT0.out _ B7.out).mono ?_
    rintro e w8 ⟨v8, rfl, s8, hb8⟩
    have B8 : Hid (Below w0.heap.size w0 w8) := B7.out.trans (hb8.mono B7.out.size)
    have S5_8 := S5_7.out.below hb8
    have S6_8 : Hid (SliceT w8 w5.heap.size v6 L) := S6_7.out.below hb8
    clear hb8
    go_wp2_with fail
    refine (eqStringS_any v5 v8 n _ _ f _ S5_8 s8 (by omega)).mono ?_
    rintro e w9 ⟨rfl, hb9⟩
    have B9 : Hid (Below w0.heap.size w0 w9) := B8.out.trans (hb9.mono B8.out.size)
    have S6_9 : Hid (SliceT w9 w5.heap.size v6 L) := S6_8.out.below hb9
    clear hb9 S5_8 s8
    go_wp2_with fail
    refine (KT1.out _ B9.out).mono ?_
    rintro e w10 ⟨v10, rfl, s10, hb10⟩
    have B10 : Hid (Below w0.heap.size w0 w10) := B9.out.trans (hb10.mono B9.out.size)
    have S6_10 : Hid (SliceT w10 w5.heap.size v6 L) := S6_9.out.below hb10
    clear hb10
    go_wp2_with fail
    refine (KE1.out _ _ _ _ _ S6_10.out s10).mono ?_
    rintro e w11 ⟨rfl, hb11⟩
    go_wp2
    go_ret
    exact ⟨rfl, B10.out.trans (hb11.mono B10.out.size)⟩
end Go.Proofs.YtfoekelhcmlagaaDoor

/- The lifting of a law's walk to a row that lists package-level variables, the world's shape kept; what the shape and the list give a walk. -/
namespace Go.Proofs.YtfoekelhcmlagaaDoor
open Go.RowKit

theorem Ld.own : ownKnob Tryd.prog.godebug = none := by kernel_rfl
theorem Ld.laidOut : laidOutB Tryd.prog = true := by kernel_rfl
set_option maxRecDepth 10000 in
theorem lift_laid {H : Type} {enc : TypeId × Value → H} {os : Os} {f : FuncId} {fn : Func} {s : ChangeSpec} {X : World → Prop} (hX : ∀ (w w' : World), w.heap = w'.heap → X w → X w')
    (started : os.Started) (noInit : Tryd.prog.inits.idxOf? f = none) (hfn : Tryd.prog.funcs[f]? = some fn)
    (start : ∃ (w : World) (tape : Tape) (i : Input), w.os = os ∧ (w.forCall tape i).Shaped Tryd.prog ∧ i.vars = [] ∧ Input.okWide Tryd.prog (w.forCall tape i) .any w.heap.size f i ∧
      ((s.pre enc Tryd.prog fn [] false (w.forCall tape i).memory i.args ∧ X (w.forCall tape i).memory) ∧ sizedMet enc Tryd.prog fn (OpenSpec.ofChange s) false (w.forCall tape i).memory i.args) ∧ Assume.holds {} Tryd.prog (lone (Frame.enter Tryd.prog f i.args .normal) [] (w.forCall tape i)))
    (walk : ∀ (W : World) (base : Nat) (args : Array Value) (ds gs : List (DataW H)) (before : List MemPlace),
      (∀ (j : Nat) t v, fn.params[j]? = some t → args[j]? = some v → Value.okWide Tryd.prog W .any base t v) →
      DataW.Whole enc Tryd.prog fn.params.toList s.vars false W args.toList ds gs before → X W → W.ShapedOpen Tryd.prog →
      Calls Tryd.prog f args W fun e W' => ∃ v, e = .returned v ∧ s.post enc Tryd.prog fn false true false false W args v W') :
    ReturnsInHanded {} Tryd.checked os f .any (fun w args => (s.pre enc Tryd.prog fn [] false w args ∧ X w) ∧ sizedMet enc Tryd.prog fn (OpenSpec.ofChange s) false w args) (s.post enc Tryd.prog fn false true false false) := by
  refine returnsInHanded_of_calls (C := Tryd.checked) Ld.own started noInit start ?_
  intro w tape i _ hsh _ hok hpre _
  obtain ⟨_, _, _, fn2, hfn2, _, _, _, _, hval⟩ := hok
  obtain rfl : fn2 = fn := Option.some.inj (hfn2.symm.trans hfn)
  obtain ⟨⟨⟨ds, gs, before, hw, _⟩, hx⟩, _⟩ := hpre
  have hw2 := DataW.Whole.of_heap (w' := w.forCall tape i) (by rfl) hw
  refine (walk (w.forCall tape i) w.heap.size i.args ds gs before hval hw2 (hX _ _ (by rfl) hx) hsh).mono fun e W' ⟨v, he, hp⟩ => ?_
  subst he
  exact ChangeSpec.post_blind hp
set_option maxRecDepth 10000 in
theorem maxI_of_shape {W : World} (h : W.ShapedOpen Tryd.prog) : MaxI W := Tryd.lays146.s1_3 W h
end Go.Proofs.YtfoekelhcmlagaaDoor

/- What a row's list of package-level variables gives a walk: the program's words of kinds, the library's two errors; a listed variable that reads behind the call as before it. -/
namespace Go.Proofs.YtfoekelhcmlagaaDoor
open Go.RowKit Go.ChangeShapes

theorem plain_of {l : List (String × DataW Unit)} {W : World} (hh : (l.all fun x => x.2.handleName?.isNone) = true) (h : laidMetH Tryd.prog l W) : laidMet Tryd.prog l W := by
  rw [MakeChecks.laidMetH_plain _ _ _ hh] at h; exact h
/-- a listed variable of an interface type holds a value of some type -/
theorem iface_of_met {P : Program} {W : World} {n nm : String} {d : DataW Unit} {r : List (String × DataW Unit)} {g : Nat} {ti : TypeId} {ms : Array (String × TypeId)} (h : laidMet P ((n, .iface nm d) :: r) W)
    (hg : P.globalNamed n = some g) (ht : (P.globals[g]?).map (·.type) = some ti) (hi : P.underlying ti = some (.interface ms)) : ∃ u v, W.cell? ⟨g, 0, none⟩ = some (.iface u v) := by
  obtain ⟨ps, ⟨g0, t0, cs0, f0, p0, q0, hg0, ht0, hv0, hd0, _, _⟩, _, _⟩ := h
  obtain rfl := Option.some.inj (hg.symm.trans hg0)
  obtain rfl := Option.some.inj (ht.symm.trans ht0)
  obtain ⟨_, u, v, hc, _, _⟩ := iface_of_trod hi hd0
  refine ⟨u, v, ?_⟩
  rw [World.var?_cell hg0 hv0 0, ← Array.getElem?_toList, hc]
  rfl
/-- one listed variable reads on -/
theorem vars_on {H : Type} {enc : TypeId × Value → H} {n : String} {g : Nat} {t : TypeId} {cs : Array Value} {fuel : Nat} {d : DataW H} {p : List MemPlace} {W W' : World}
    (hr : Tryd.prog.readableRec t = true) (hrow : t < Tryd.prog.types.size) (hg : Tryd.prog.globalNamed n = some g) (ht : (Tryd.prog.globals[g]?).map (·.type) = some t) (hv : W.var? Tryd.prog n = some cs) (hlt : g < W.heap.size)
    (hd : DataW.trod enc Tryd.prog W 0 (fun _ => true) true fuel t cs.toList = some (d, p)) (hb : Below W.heap.size W W') :
    DataW.TrodVars enc Tryd.prog W' (fun b => decide (b < W.heap.size)) [n] [d] (MemPlace.row ⟨g, 0, none⟩ cs.size ++ p) := by
  have k : DataW.Trod enc Tryd.prog W 0 (fun _ => true) true t (.agg cs) d p := ⟨fuel, hd⟩
  obtain ⟨f', hd'⟩ := Below.trod Ld.laidOut hr hrow k hb (DataW.trod_lt fuel _ _ _ hd)
  exact trodVars_mk1 hg ht (var?_below hb hg hlt hv) hd'
theorem var_lt {P : Program} {W : World} {n : String} {g : Nat} {cs : Array Value} (hg : P.globalNamed n = some g) (hv : W.var? P n = some cs) : g < W.heap.size := by
  unfold World.var? at hv
  simp only [hg, Option.bind_some] at hv
  by_cases h : g < W.heap.size
  · exact h
  · rw [Array.getElem?_eq_none (by omega)] at hv; simp at hv
end Go.Proofs.YtfoekelhcmlagaaDoor

/- What a row's list of the program's five errors gives a walk; listed variables that read behind the call as before it. -/
namespace Go.Proofs.YtfoekelhcmlagaaDoor
open Go.RowKit Go.ChangeShapes

theorem varsAll_on {H : Type} {enc : TypeId × Value → H} {W W' : World} (hb : Below W.heap.size W W') : ∀ {ns : List String} {ds : List (DataW H)} {ps : List MemPlace}, (∀ n ∈ ns, ∀ g t, Tryd.prog.globalNamed n = some g → (Tryd.prog.globals[g]?).map (·.type) = some t → Tryd.prog.readableRec t = true ∧ t < Tryd.prog.types.size) →
    DataW.TrodVars enc Tryd.prog W (fun _ => true) ns ds ps → DataW.TrodVars enc Tryd.prog W' (fun b => decide (b < W.heap.size)) ns ds ps
  | [], [], _, _, h => h
  | n :: ns, d :: ds, ps, hr, ⟨g, t, cs, fuel, p, q, h1, h2, h3, h4, hs, e⟩ => by
    obtain ⟨r1, r2⟩ := hr n (List.mem_cons_self ..) g t h1 h2
    have k : DataW.Trod enc Tryd.prog W 0 (fun _ => true) true t (.agg cs) d p := ⟨fuel, h4⟩
    obtain ⟨f', hd'⟩ := Below.trod Ld.laidOut r1 r2 k hb (DataW.trod_lt fuel _ _ _ h4)
    exact ⟨g, t, cs, f', p, q, h1, h2, var?_below hb h1 (var_lt h1 h3) h3, hd', varsAll_on hb (fun n hn => hr n (List.mem_cons_of_mem _ hn)) hs, e⟩
theorem vars5 {H : Type} {enc : TypeId × Value → H} {P : Program} {W : World} {sp : Nat → Bool} {n1 n2 n3 n4 n5 : String} {gs : List (DataW H)} {ps : List MemPlace} (h : DataW.TrodVars enc P W sp [n1, n2, n3, n4, n5] gs ps) : ∃ d1 d2 d3 d4 d5, gs = [d1, d2, d3, d4, d5] := by
  match gs, h with
  | [], h => exact h.elim
  | d1 :: r1, ⟨_, _, _, _, _, _, _, _, _, _, h, _⟩ =>
  match r1, h with
  | [], h => exact h.elim
  | d2 :: r2, ⟨_, _, _, _, _, _, _, _, _, _, h, _⟩ =>
  match r2, h with
  | [], h => exact h.elim
  | d3 :: r3, ⟨_, _, _, _, _, _, _, _, _, _, h, _⟩ =>
  match r3, h with
  | [], h => exact h.elim
  | d4 :: r4, ⟨_, _, _, _, _, _, _, _, _, _, h, _⟩ =>
  match r4, h with
  | [], h => exact h.elim
  | d5 :: r5, ⟨_, _, _, _, _, _, _, _, _, _, h, _⟩ =>
  match r5, h with
  | [], _ => exact ⟨d1, d2, d3, d4, d5, rfl⟩
  | _ :: _, h => exact h.elim
theorem errNames_read : ∀ n ∈ ["loop.example/g00551/impl.errRules", "loop.example/g00551/impl.errOrder", "loop.example/g00551/impl.errMany", "loop.example/g00551/impl.errWrong", "loop.example/g00551/impl.errTaken"], ∀ g t, Tryd.prog.globalNamed n = some g → (Tryd.prog.globals[g]?).map (·.type) = some t → Tryd.prog.readableRec t = true ∧ t < Tryd.prog.types.size := by
  have key : ∀ n g0, Tryd.prog.globalNamed n = some g0 → (Tryd.prog.globals[g0]?).map (·.type) = some 109 → ∀ g t, Tryd.prog.globalNamed n = some g → (Tryd.prog.globals[g]?).map (·.type) = some t → Tryd.prog.readableRec t = true ∧ t < Tryd.prog.types.size := fun n g0 h1 h2 g t h3 h4 => by
    obtain rfl := Option.some.inj (h1.symm.trans h3)
    obtain rfl := Option.some.inj (h2.symm.trans h4)
    exact ⟨by kernel_rfl, of_decide_eq_true (by kernel_rfl)⟩
  intro n hn
  simp only [List.mem_cons, List.not_mem_nil, or_false] at hn
  rcases hn with rfl | rfl | rfl | rfl | rfl
  · exact key _ 0 (by kernel_rfl) (by kernel_rfl)
  · exact key _ 1 (by kernel_rfl) (by kernel_rfl)
  · exact key _ 2 (by kernel_rfl) (by kernel_rfl)
  · exact key _ 3 (by kernel_rfl) (by kernel_rfl)
  · exact key _ 5 (by kernel_rfl) (by kernel_rfl)
end Go.Proofs.YtfoekelhcmlagaaDoor
