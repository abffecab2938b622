/- 12 of this claim's texts, one behind the other. -/
import Derived.Test.YthcpmbolnmlohaaDoorPart3
import Derived.Test.YthcpmbolnmlohaaDoorPart1
import Derived.Lib.ParseIntB
import Derived.Lib.ParseIntBCases
import Derived.Lib.ParseIntBTie
import Derived.Lib.ItoaMem
import Derived.Test.YthcpmbolnmlohaaDoorShelf
import Derived.Lib.AppendIntMem
import Derived.Shelf.Strconv.Itoa4
import Derived.WalkKit
import Derived.WalkSpells
import Derived.WalkLawsBesides
import Derived.Laws.RangeAny
import Derived.Deep.DeepCutAuto
/- A right SetCookie comes back from its text: plain facts, no walk. -/
namespace Go.Proofs.YthcpmbolnmlohaaDoor

theorem scTo_foldl (p : ByteArray) (r : List ByteArray) (i : Nat) (h : i ≤ r.length) : scTo (p :: r) i = (r.take i).foldl scPut ⟨(pairP p).1, (pairP p).2, ⟨#[]⟩, ⟨#[]⟩, -1, false, 0, false⟩ := by
  induction i with
  | zero => rfl
  | succ i ih =>
    have hl : i < r.length := by omega
    have e : atL (p :: r) (i + 1) = r[i] := by simp [atL, hl]
    rw [scTo, ih (by omega), e, List.take_succ_eq_append_getElem hl, List.foldl_append]
    rfl

def nDomain : ByteArray := ⟨#[68, 111, 109, 97, 105, 110]⟩
def nPath : ByteArray := ⟨#[80, 97, 116, 104]⟩
def nAge : ByteArray := ⟨#[77, 97, 120, 45, 65, 103, 101]⟩
def nSecure : ByteArray := ⟨#[83, 101, 99, 117, 114, 101]⟩
def nParted : ByteArray := ⟨#[80, 97, 114, 116, 105, 116, 105, 111, 110, 101, 100]⟩
def nSame : ByteArray := ⟨#[83, 97, 109, 101, 83, 105, 116, 101]⟩
def vStrict : ByteArray := ⟨#[83, 116, 114, 105, 99, 116]⟩
def vNone : ByteArray := ⟨#[78, 111, 110, 101]⟩
def o1 (dm : ByteArray) : List ByteArray := if dm.toList.isEmpty = true then [] else [nDomain ++ equ ++ dm]
def o2 (pa : ByteArray) : List ByteArray := if pa.toList.isEmpty = true then [] else [nPath ++ equ ++ pa]
def o3 (ag : Int) : List ByteArray := if 0 ≤ ag then [nAge ++ equ ++ decB ag] else []
def o4 (se : Bool) : List ByteArray := if se = true then [nSecure] else []
def o5 (mo : Int) : List ByteArray := if mo = 1 then [nSame ++ equ ++ vStrict] else if mo = 2 then [nSame ++ equ ++ vNone] else []
def o6 (pt : Bool) : List ByteArray := if pt = true then [nParted] else []
theorem t1_flat (x dm : ByteArray) : setT1 x dm = x ++ flat (o1 dm) := by
  unfold setT1 o1; split
  · exact (app_nil x).symm
  · rw [flat_one, show kDomain = semi ++ (nDomain ++ equ) from by rfl]; simp only [ByteArray.append_assoc]
theorem t2_flat (x pa : ByteArray) : setT2 x pa = x ++ flat (o2 pa) := by
  unfold setT2 o2; split
  · exact (app_nil x).symm
  · rw [flat_one, show kPath = semi ++ (nPath ++ equ) from by rfl]; simp only [ByteArray.append_assoc]
theorem t3_flat (x : ByteArray) (ag : Int) : setT3 x ag = x ++ flat (o3 ag) := by
  unfold setT3 o3; split
  · rw [flat_one, show kAge = semi ++ (nAge ++ equ) from by rfl]; simp only [ByteArray.append_assoc]
  · exact (app_nil x).symm
theorem t4_flat (x : ByteArray) (se : Bool) : setT4 x se = x ++ flat (o4 se) := by
  unfold setT4 o4; split
  · rw [flat_one]; rfl
  · exact (app_nil x).symm
theorem t5_flat (x : ByteArray) (mo : Int) : setT5 x mo = x ++ flat (o5 mo) := by
  unfold setT5 o5; split
  · rw [flat_one]; rfl
  · split
    · rw [flat_one]; rfl
    · exact (app_nil x).symm
theorem t6_flat (x : ByteArray) (pt : Bool) : setT6 x pt = x ++ flat (o6 pt) := by
  unfold setT6 o6; split
  · rw [flat_one]; rfl
  · exact (app_nil x).symm
theorem setT_flat (na va dm pa : ByteArray) (ag : Int) (se : Bool) (mo : Int) (pt : Bool) : setT na va dm pa ag se mo pt = (na ++ equ ++ va) ++ flat (o1 dm ++ o2 pa ++ o3 ag ++ o4 se ++ o5 mo ++ o6 pt) := by
  unfold setT
  rw [t6_flat, t5_flat, t4_flat, t3_flat, t2_flat, t1_flat, show setT0 na va = na ++ equ ++ va from rfl]
  simp only [flat_app, ByteArray.append_assoc]

instance (t : ByteArray) (c : UInt8) : Decidable (Lacks t c) := by unfold Lacks; infer_instance
theorem wordB_bytes {t : ByteArray} (h : wordB t = true) : Lacks t 59 ∧ Lacks t 61 := by
  unfold wordB at h
  rw [Bool.and_eq_true, decide_eq_true_eq] at h
  constructor <;> intro i hi e <;> have := h.1 i hi <;> rw [e] at this <;> revert this <;> decide
theorem host_bytes {t : ByteArray} (h : hostB t = true) : Lacks t 59 := by
  intro i hi e
  have := hostB_bytes h i hi
  rw [e] at this
  revert this; decide
theorem path_bytes {t : ByteArray} (h : pathB t = true) : Lacks t 59 := by
  unfold pathB at h
  rw [decide_eq_true_eq] at h
  intro i hi e
  have := h.2.2.2 i hi
  rw [e] at this
  revert this; decide
theorem nil_of {t : ByteArray} (h : t.toList.isEmpty = true) : t = ⟨#[]⟩ := by
  rw [Lib.toList_data, List.isEmpty_iff] at h
  apply ByteArray.ext
  exact Array.toList_inj.mp h
theorem orB_bytes {t : ByteArray} {b : Bool} (h : orB t b = true) (hb : b = true → Lacks t 59) : Lacks t 59 := by
  unfold orB at h
  rw [Bool.or_eq_true] at h
  rcases h with h | h
  · rw [nil_of h]; intro i hi; exact absurd hi (by show ¬ i < 0; omega)
  · exact hb h
theorem dec_bytes (ag : Int) (h : 0 ≤ ag) : Lacks (decB ag) 59 := by
  by_cases h0 : ag = 0
  · subst h0; decide
  · intro i hi e
    have := decB_dig ag (by omega) i hi
    rw [e] at this
    revert this; decide
/-- a number up to MaxTime comes back -/
theorem age_back (n : Int) (h1 : 0 ≤ n) (h2 : n ≤ 1000000) : numI (decB n) = n := by
  by_cases h0 : n = 0
  · subst h0; decide
  have hd : decB n = ⟨(decA n.natAbs).toArray⟩ := by rw [decB, if_neg (by omega), if_neg (by omega)]
  have hz : (decB n).size = (decA n.natAbs).length := by rw [hd]; rfl
  have hl := decA_len 7 n.natAbs (by omega)
  obtain ⟨c, l, hc, hn⟩ := decA_lead n.natAbs (by omega)
  have hp : 0 < (decA n.natAbs).length := by rw [hc]; simp
  rw [numI_yes (by omega) (by omega)]
  · rw [numTo_take _ _ (Nat.le_refl _), hd]
    show ((numL ((decA n.natAbs).take (decA n.natAbs).length) : Nat) : Int) = n
    rw [List.take_length, decA_num]; omega
  · intro _ h0
    have e : (decB n)[0] = c := by
      simp only [hd]
      show (decA n.natAbs)[0] = c
      simp only [hc]; rfl
    rw [e]; exact hn
  · intro i h
    have e : (decB n)[i] = (decA n.natAbs)[i]'(by omega) := by
      simp only [hd]; rfl
    rw [e]
    exact digC_yes (decA_dig n.natAbs _ (List.getElem_mem _))

theorem put1 (c : SC) (dm : ByteArray) (h : c.dm = ⟨#[]⟩) : (o1 dm).foldl scPut c = { c with dm := dm } := by
  unfold o1; split
  · rename_i e; rw [nil_of e, ← h]; rfl
  · show scPut c (nDomain ++ equ ++ dm) = _
    unfold scPut
    rw [pair_mid dm (a := nDomain) (by decide), if_pos (by rw [Lib.toList_data]; dsimp only; decide)]
theorem put2 (c : SC) (pa : ByteArray) (h : c.pa = ⟨#[]⟩) : (o2 pa).foldl scPut c = { c with pa := pa } := by
  unfold o2; split
  · rename_i e; rw [nil_of e, ← h]; rfl
  · show scPut c (nPath ++ equ ++ pa) = _
    unfold scPut
    rw [pair_mid pa (a := nPath) (by decide), if_neg (by rw [Lib.toList_data]; dsimp only; decide), if_pos (by rw [Lib.toList_data]; dsimp only; decide)]
theorem put3 (c : SC) (ag : Int) (h : c.ag = -1) (h1 : -1 ≤ ag) (h2 : ag ≤ 1000000) : (o3 ag).foldl scPut c = { c with ag := ag } := by
  unfold o3; split
  · show scPut c (nAge ++ equ ++ decB ag) = _
    unfold scPut
    rw [pair_mid (decB ag) (a := nAge) (by decide), if_neg (by rw [Lib.toList_data]; dsimp only; decide), if_neg (by rw [Lib.toList_data]; dsimp only; decide), if_pos (by rw [Lib.toList_data]; dsimp only; decide), age_back ag (by omega) h2]
  · have e : ag = -1 := by omega
    rw [e, ← h]; rfl
theorem put4 (c : SC) (se : Bool) (h : c.se = false) : (o4 se).foldl scPut c = { c with se := se } := by
  unfold o4; split
  · rename_i e
    show scPut c nSecure = _
    unfold scPut
    rw [pair_nowhere (a := nSecure) (by decide), if_neg (by rw [Lib.toList_data]; dsimp only; decide), if_neg (by rw [Lib.toList_data]; dsimp only; decide), if_neg (by rw [Lib.toList_data]; dsimp only; decide), if_pos (by rw [Lib.toList_data]; dsimp only; decide), e]
  · rename_i e
    rw [Bool.eq_false_iff.mpr e, ← h]; rfl
theorem put5 (c : SC) (mo : Int) (h : c.mo = 0) (hm : modeB mo = true) : (o5 mo).foldl scPut c = { c with mo := mo } := by
  unfold o5; split
  · rename_i e
    show scPut c (nSame ++ equ ++ vStrict) = _
    unfold scPut
    rw [pair_mid vStrict (a := nSame) (by decide), if_neg (by rw [Lib.toList_data]; dsimp only; decide), if_neg (by rw [Lib.toList_data]; dsimp only; decide), if_neg (by rw [Lib.toList_data]; dsimp only; decide), if_neg (by rw [Lib.toList_data]; dsimp only; decide), if_neg (by rw [Lib.toList_data]; dsimp only; decide), if_pos (by rw [Lib.toList_data]; dsimp only; decide), if_pos (by rw [Lib.toList_data]; dsimp only; decide), e]
  · split
    · rename_i e
      show scPut c (nSame ++ equ ++ vNone) = _
      unfold scPut
      rw [pair_mid vNone (a := nSame) (by decide), if_neg (by rw [Lib.toList_data]; dsimp only; decide), if_neg (by rw [Lib.toList_data]; dsimp only; decide), if_neg (by rw [Lib.toList_data]; dsimp only; decide), if_neg (by rw [Lib.toList_data]; dsimp only; decide), if_neg (by rw [Lib.toList_data]; dsimp only; decide), if_pos (by rw [Lib.toList_data]; dsimp only; decide), if_neg (by rw [Lib.toList_data]; dsimp only; decide), e]
    · unfold modeB at hm
      rw [Bool.and_eq_true, decide_eq_true_eq, decide_eq_true_eq] at hm
      have e : mo = 0 := by omega
      rw [e, ← h]; rfl
theorem put6 (c : SC) (pt : Bool) (h : c.pt = false) : (o6 pt).foldl scPut c = { c with pt := pt } := by
  unfold o6; split
  · rename_i e
    show scPut c nParted = _
    unfold scPut
    rw [pair_nowhere (a := nParted) (by decide), if_neg (by rw [Lib.toList_data]; dsimp only; decide), if_neg (by rw [Lib.toList_data]; dsimp only; decide), if_neg (by rw [Lib.toList_data]; dsimp only; decide), if_neg (by rw [Lib.toList_data]; dsimp only; decide), if_pos (by rw [Lib.toList_data]; dsimp only; decide), e]
  · rename_i e
    rw [Bool.eq_false_iff.mpr e, ← h]; rfl
/-- the pieces of a right one's text -/
theorem set_pieces (na va dm pa : ByteArray) (ag : Int) (se : Bool) (mo : Int) (pt : Bool) (h : setB na va dm pa ag mo = true) : piecesL (setT na va dm pa ag se mo pt) = (na ++ equ ++ va) :: (o1 dm ++ o2 pa ++ o3 ag ++ o4 se ++ o5 mo ++ o6 pt) ∧ Lacks na 61 ∧ -1 ≤ ag ∧ ag ≤ 1000000 ∧ modeB mo = true := by
  have h' := h
  unfold setB ageB at h'
  simp only [Bool.and_eq_true, decide_eq_true_eq] at h'
  obtain ⟨⟨⟨⟨⟨⟨_, w1⟩, w2⟩, w3⟩, w4⟩, w5, w6⟩, w7⟩ := h'
  have L1 := wordB_bytes w1
  have L2 := wordB_bytes w2
  have L3 := orB_bytes w3 host_bytes
  have L4 := orB_bytes w4 path_bytes
  refine ⟨?_, L1.2, w5, w6, w7⟩
  rw [setT_flat]
  refine pieces_flat _ _ ((L1.1.app (by decide)).app L2.1) ?_
  intro q hq
  simp only [List.mem_append] at hq
  rcases hq with ((((hq | hq) | hq) | hq) | hq) | hq
  · unfold o1 at hq; split at hq
    · cases hq
    · rw [List.mem_singleton] at hq; subst hq; exact Lacks.app (by decide) L3
  · unfold o2 at hq; split at hq
    · cases hq
    · rw [List.mem_singleton] at hq; subst hq; exact Lacks.app (by decide) L4
  · unfold o3 at hq; split at hq
    · rw [List.mem_singleton] at hq; subst hq; exact Lacks.app (by decide) (dec_bytes ag (by omega))
    · cases hq
  · unfold o4 at hq; split at hq
    · rw [List.mem_singleton] at hq; subst hq; decide
    · cases hq
  · unfold o5 at hq; split at hq
    · rw [List.mem_singleton] at hq; subst hq; decide
    · split at hq
      · rw [List.mem_singleton] at hq; subst hq; decide
      · cases hq
  · unfold o6 at hq; split at hq
    · rw [List.mem_singleton] at hq; subst hq; decide
    · cases hq
/-- a right one is read back from its text -/
theorem set_back (na va dm pa : ByteArray) (ag : Int) (se : Bool) (mo : Int) (pt : Bool) (h : setB na va dm pa ag mo = true) : scRead (setT na va dm pa ag se mo pt) = ⟨na, va, dm, pa, ag, se, mo, pt⟩ := by
  obtain ⟨hp, L1, w5, w6, w7⟩ := set_pieces na va dm pa ag se mo pt h
  unfold scRead
  rw [hp, List.length_cons, Nat.add_sub_cancel, scTo_foldl _ _ _ (Nat.le_refl _), List.take_length, pair_mid va L1]
  simp only [List.foldl_append]
  rw [put1 _ dm rfl, put2 _ pa rfl, put3 _ ag rfl w5 w6, put4 _ se rfl, put5 _ mo rfl w7, put6 _ pt rfl]
theorem set_got (na va dm pa : ByteArray) (ag : Int) (se : Bool) (mo : Int) (pt : Bool) (h : setB na va dm pa ag mo = true) (hz : (setT na va dm pa ag se mo pt).size ≤ 8000) : scGot (setTx na va dm pa ag se mo pt) = (⟨na, va, dm, pa, ag, se, mo, pt⟩, 0) := by
  have e : setTx na va dm pa ag se mo pt = setT na va dm pa ag se mo pt := by unfold setTx; rw [if_pos h]
  have b := set_back na va dm pa ag se mo pt h
  have hne : (setT na va dm pa ag se mo pt).toList.isEmpty = false := by
    rw [setT_flat, Lib.toList_data]
    show ((na ++ equ ++ va ++ flat _).data.toList).isEmpty = false
    rw [← Bool.not_eq_true, List.isEmpty_iff]
    intro hh
    have := congrArg List.length hh
    simp [equ] at this
  unfold scGot
  rw [e, if_neg (by omega), if_pos, b]
  unfold scOk scTx
  rw [b, hne]
  simp only [e]
  simp
end Go.Proofs.YthcpmbolnmlohaaDoor

/- What the program reads of a text: a right SetCookie comes back from its text there too; so both readers tell the same of every text. -/
namespace Go.Proofs.YthcpmbolnmlohaaDoor

/-- the number that the program takes a text for -/
def parseI (t : ByteArray) : Int := match Lib.parseIntB 64 t.data.toList with | .ok v => v | .«syntax» => 0 | .range => Lib.intSat 64 t.data.toList
theorem parseI_bounds (t : ByteArray) : -9223372036854775808 ≤ parseI t ∧ parseI t ≤ 9223372036854775807 := by
  unfold parseI
  cases h : Lib.parseIntB 64 t.data.toList with
  | ok v =>
    have := Lib.parseIntB_bounds h
    have e : ((2 ^ (64 - 1) : Nat) : Int) = 9223372036854775808 := by decide
    rw [e] at this
    show _ ≤ v ∧ v ≤ _
    omega
  | «syntax» => show _ ≤ (0 : Int) ∧ (0 : Int) ≤ _; omega
  | range =>
    show _ ≤ Lib.intSat 64 t.data.toList ∧ Lib.intSat 64 t.data.toList ≤ _
    unfold Lib.intSat
    split <;> constructor <;> decide
theorem uint_digits (M : Nat) : ∀ (l : List UInt8) (acc : Nat), (∀ c ∈ l, 48 ≤ c.toNat ∧ c.toNat ≤ 57) → M ≤ 18446744073709551615 → l.foldl (fun a c => a * 10 + (c.toNat - 48)) acc ≤ M → Lib.parseUintM M acc l = .ok (l.foldl (fun a c => a * 10 + (c.toNat - 48)) acc)
  | [], acc, _, _, _ => rfl
  | c :: l, acc, hd, hM, hle => by
    have mono : ∀ (l : List UInt8) (a : Nat), a ≤ l.foldl (fun a c => a * 10 + (c.toNat - 48)) a := by
      intro l
      induction l with
      | nil => intro a; exact Nat.le_refl _
      | cons c l ih => intro a; rw [List.foldl_cons]; exact Nat.le_trans (by omega) (ih _)
    rw [List.foldl_cons] at hle ⊢
    have h1 := mono l (acc * 10 + (c.toNat - 48))
    have hc := hd c (by simp)
    rw [Lib.parseUintM, if_pos hc, if_neg (by omega), if_neg (by omega)]
    exact uint_digits M l _ (fun x hx => hd x (by simp [hx])) hM hle
/-- digits of a number are taken for it -/
theorem parse_back (n : Int) (h1 : 0 ≤ n) (h2 : n ≤ 1000000) : parseI (decB n) = n := by
  by_cases h0 : n = 0
  · subst h0; decide
  have hd : decB n = ⟨(decA n.natAbs).toArray⟩ := by rw [decB, if_neg (by omega), if_neg (by omega)]
  have hnum := decA_num n.natAbs
  have hdig := decA_dig n.natAbs
  obtain ⟨c, l, hc, hn⟩ := decA_lead n.natAbs (by omega)
  have hc0 := hdig c (by rw [hc]; simp)
  have e : ∀ (l : List UInt8) (a : Nat), l.foldl (fun a c => a * 10 + (c.toNat - 48)) a = l.foldl (fun n c => 10 * n + (c.toNat - 48)) a := by
    intro l
    induction l with
    | nil => intro a; rfl
    | cons c l ih => intro a; rw [List.foldl_cons, List.foldl_cons, ih, Nat.mul_comm a 10]
  have hf : (decA n.natAbs).foldl (fun a c => a * 10 + (c.toNat - 48)) 0 = n.natAbs := (e _ 0).trans hnum
  have hu := uint_digits 18446744073709551615 (decA n.natAbs) 0 hdig (Nat.le_refl _) (by rw [hf]; omega)
  rw [hf] at hu
  have hb : Lib.parseUintB 64 (decA n.natAbs) = .ok n.natAbs := by
    unfold Lib.parseUintB
    rw [if_neg (by rw [hc]; simp)]
    exact hu
  have hp : Lib.parseIntB 64 (decA n.natAbs) = .ok n := by
    rw [hc] at hb ⊢
    rw [Lib.parseIntB_plain 64 c l (by omega) (by omega), hb]
    show Lib.signlessC 9223372036854775808 (.ok n.natAbs) = _
    unfold Lib.signlessC
    simp only
    rw [if_neg (by omega)]
    congr 1
    omega
  unfold parseI
  rw [hd]
  simp only [hp]

/-- what a piece with a value turns -/
def iVal (c : SC) (x : ByteArray) : SC :=
  if ((pairP x).1.toList == tDomain) = true then { c with dm := (pairP x).2 }
  else if ((pairP x).1.toList == tPath) = true then { c with pa := (pairP x).2 }
  else if ((pairP x).1.toList == tAge) = true then { c with ag := parseI (pairP x).2 }
  else c
def tNoneW : List UInt8 := [83, 97, 109, 101, 83, 105, 116, 101, 61, 78, 111, 110, 101]
def tStrictW : List UInt8 := [83, 97, 109, 101, 83, 105, 116, 101, 61, 83, 116, 114, 105, 99, 116]
/-- what a piece turns -/
def iPut (c : SC) (x : ByteArray) : SC :=
  if (x.toList == tNoneW) = true then { c with mo := c.mo + 1 + 1 }
  else if (x.toList == tStrictW) = true then { c with mo := c.mo + 1 }
  else if (x.toList == tSecure) = true then { c with se := true }
  else if (x.toList == tParted) = true then { c with pt := true }
  else iVal c x
/-- the pieces from the second one to the i-th turn one after another -/
def iTo (L : List ByteArray) : Nat → SC
  | 0 => ⟨(pairP (atL L 0)).1, (pairP (atL L 0)).2, ⟨#[]⟩, ⟨#[]⟩, -1, false, 0, false⟩
  | i + 1 => iPut (iTo L i) (atL L (i + 1))
def iRead (t : ByteArray) : SC := iTo (piecesL t) ((piecesL t).length - 1)
theorem iTo_foldl (p : ByteArray) (r : List ByteArray) (i : Nat) (h : i ≤ r.length) : iTo (p :: r) i = (r.take i).foldl iPut ⟨(pairP p).1, (pairP p).2, ⟨#[]⟩, ⟨#[]⟩, -1, false, 0, false⟩ := by
  induction i with
  | zero => rfl
  | succ i ih =>
    have hl : i < r.length := by omega
    have e : atL (p :: r) (i + 1) = r[i] := by simp [atL, hl]
    rw [iTo, ih (by omega), e, List.take_succ_eq_append_getElem hl, List.foldl_append]
    rfl
theorem ne_len {x : ByteArray} {l : List UInt8} (h : x.size ≠ l.length) : ¬ (x.toList == l) = true := by
  rw [beq_iff_eq]
  intro e
  apply h
  rw [← e, Lib.toList_data]; exact Lib.size_eq x
theorem ne_head {x : ByteArray} {l : List UInt8} (i : Nat) (h : x.data.toList[i]? ≠ l[i]?) : ¬ (x.toList == l) = true := by
  rw [beq_iff_eq, Lib.toList_data]
  intro e
  rw [e] at h; exact h rfl
theorem app_at (a b : ByteArray) (i : Nat) (h : i < a.size) : (a ++ b).data.toList[i]? = a.data.toList[i]? := by
  have e : (a ++ b).data.toList = a.data.toList ++ b.data.toList := by simp
  rw [e, List.getElem?_append_left (by rw [← Lib.size_eq]; exact h)]
theorem iput1 (c : SC) (dm : ByteArray) (h : c.dm = ⟨#[]⟩) : (o1 dm).foldl iPut c = { c with dm := dm } := by
  unfold o1; split
  · rename_i e; rw [nil_of e, ← h]; rfl
  · show iPut c (nDomain ++ equ ++ dm) = _
    have k : ∀ l : List UInt8, l[0]? ≠ some 68 → ¬ ((nDomain ++ equ ++ dm).toList == l) = true := fun l hl => ne_head 0 (by rw [app_at _ _ _ (by decide)]; exact fun e => hl (e.symm.trans (by decide)))
    unfold iPut
    rw [if_neg (k _ (by decide)), if_neg (k _ (by decide)), if_neg (k _ (by decide)), if_neg (k _ (by decide))]
    unfold iVal
    rw [pair_mid dm (a := nDomain) (by decide), if_pos (by rw [Lib.toList_data]; dsimp only; decide)]
theorem iput2 (c : SC) (pa : ByteArray) (h : c.pa = ⟨#[]⟩) : (o2 pa).foldl iPut c = { c with pa := pa } := by
  unfold o2; split
  · rename_i e; rw [nil_of e, ← h]; rfl
  · show iPut c (nPath ++ equ ++ pa) = _
    have k : ∀ l : List UInt8, l[2]? ≠ some 116 → ¬ ((nPath ++ equ ++ pa).toList == l) = true := fun l hl => ne_head 2 (by rw [app_at _ _ _ (by decide)]; exact fun e => hl (e.symm.trans (by decide)))
    unfold iPut
    rw [if_neg (k _ (by decide)), if_neg (k _ (by decide)), if_neg (k _ (by decide)), if_neg (k _ (by decide))]
    unfold iVal
    rw [pair_mid pa (a := nPath) (by decide), if_neg (by rw [Lib.toList_data]; dsimp only; decide), if_pos (by rw [Lib.toList_data]; dsimp only; decide)]
theorem iput3 (c : SC) (ag : Int) (h : c.ag = -1) (h1 : -1 ≤ ag) (h2 : ag ≤ 1000000) : (o3 ag).foldl iPut c = { c with ag := ag } := by
  unfold o3; split
  · show iPut c (nAge ++ equ ++ decB ag) = _
    have k : ∀ l : List UInt8, l[0]? ≠ some 77 → ¬ ((nAge ++ equ ++ decB ag).toList == l) = true := fun l hl => ne_head 0 (by rw [app_at _ _ _ (by decide)]; exact fun e => hl (e.symm.trans (by decide)))
    unfold iPut
    rw [if_neg (k _ (by decide)), if_neg (k _ (by decide)), if_neg (k _ (by decide)), if_neg (k _ (by decide))]
    unfold iVal
    rw [pair_mid (decB ag) (a := nAge) (by decide), if_neg (by rw [Lib.toList_data]; dsimp only; decide), if_neg (by rw [Lib.toList_data]; dsimp only; decide), if_pos (by rw [Lib.toList_data]; dsimp only; decide), parse_back ag (by omega) h2]
  · have e : ag = -1 := by omega
    rw [e, ← h]; rfl
theorem iput4 (c : SC) (se : Bool) (h : c.se = false) : (o4 se).foldl iPut c = { c with se := se } := by
  unfold o4; split
  · rename_i e
    show iPut c nSecure = _
    unfold iPut
    rw [if_neg (by rw [Lib.toList_data]; decide), if_neg (by rw [Lib.toList_data]; decide), if_pos (by rw [Lib.toList_data]; decide), e]
  · rename_i e
    rw [Bool.eq_false_iff.mpr e, ← h]; rfl
theorem iput5 (c : SC) (mo : Int) (h : c.mo = 0) (hm : modeB mo = true) : (o5 mo).foldl iPut c = { c with mo := mo } := by
  unfold o5; split
  · rename_i e
    show iPut c (nSame ++ equ ++ vStrict) = _
    unfold iPut
    rw [if_neg (by rw [Lib.toList_data]; decide), if_pos (by rw [Lib.toList_data]; decide), e, h]; rfl
  · split
    · rename_i e
      show iPut c (nSame ++ equ ++ vNone) = _
      unfold iPut
      rw [if_pos (by rw [Lib.toList_data]; decide), e, h]; rfl
    · unfold modeB at hm
      rw [Bool.and_eq_true, decide_eq_true_eq, decide_eq_true_eq] at hm
      have e : mo = 0 := by omega
      rw [e, ← h]; rfl
theorem iput6 (c : SC) (pt : Bool) (h : c.pt = false) : (o6 pt).foldl iPut c = { c with pt := pt } := by
  unfold o6; split
  · rename_i e
    show iPut c nParted = _
    unfold iPut
    rw [if_neg (by rw [Lib.toList_data]; decide), if_neg (by rw [Lib.toList_data]; decide), if_neg (by rw [Lib.toList_data]; decide), if_pos (by rw [Lib.toList_data]; decide), e]
  · rename_i e
    rw [Bool.eq_false_iff.mpr e, ← h]; rfl
theorem iset_back (na va dm pa : ByteArray) (ag : Int) (se : Bool) (mo : Int) (pt : Bool) (h : setB na va dm pa ag mo = true) : iRead (setT na va dm pa ag se mo pt) = ⟨na, va, dm, pa, ag, se, mo, pt⟩ := by
  obtain ⟨hp, L1, w5, w6, w7⟩ := set_pieces na va dm pa ag se mo pt h
  unfold iRead
  rw [hp, List.length_cons, Nat.add_sub_cancel, iTo_foldl _ _ _ (Nat.le_refl _), List.take_length, pair_mid va L1]
  simp only [List.foldl_append]
  rw [iput1 _ dm rfl, iput2 _ pa rfl, iput3 _ ag rfl w5 w6, iput4 _ se rfl, iput5 _ mo rfl w7, iput6 _ pt rfl]
/-- is it right, and the text of what the program reads of it? -/
def iOk (t : ByteArray) : Bool := setB (iRead t).na (iRead t).va (iRead t).dm (iRead t).pa (iRead t).ag (iRead t).mo && ((scTx (iRead t)).toList == t.toList)
theorem setT_ne (na va dm pa : ByteArray) (ag : Int) (se : Bool) (mo : Int) (pt : Bool) : (setT na va dm pa ag se mo pt).toList.isEmpty = false := by
  rw [setT_flat, Lib.toList_data]
  show ((na ++ equ ++ va ++ flat _).data.toList).isEmpty = false
  rw [← Bool.not_eq_true, List.isEmpty_iff]
  intro hh
  have := congrArg List.length hh
  simp [equ] at this
theorem toList_inj {a b : ByteArray} (h : (a.toList == b.toList) = true) : a = b := by
  rw [beq_iff_eq, Lib.toList_data, Lib.toList_data] at h
  apply ByteArray.ext
  exact Array.toList_inj.1 h
/-- both readers tell the same -/
theorem readers_same (t : ByteArray) : (iOk t = scOk t) ∧ (scOk t = true → iRead t = scRead t) := by
  have right : ∀ c : SC, (scTx c).toList.isEmpty = false → setB c.na c.va c.dm c.pa c.ag c.mo = true := by
    intro c hc
    unfold scTx setTx at hc
    by_cases hb : setB c.na c.va c.dm c.pa c.ag c.mo = true
    · exact hb
    · rw [if_neg hb] at hc; simp at hc
  by_cases hs : scOk t = true
  · have h1 := hs
    unfold scOk at h1
    rw [Bool.and_eq_true] at h1
    have ht := toList_inj h1.2
    have hb := right (scRead t) (by rw [ht]; simpa using h1.1)
    have hT : setT (scRead t).na (scRead t).va (scRead t).dm (scRead t).pa (scRead t).ag (scRead t).se (scRead t).mo (scRead t).pt = t := by
      have : scTx (scRead t) = _ := rfl
      unfold scTx setTx at ht
      rw [if_pos hb] at ht; exact ht
    have hi := iset_back _ _ _ _ _ (scRead t).se _ (scRead t).pt hb
    rw [hT] at hi
    have hi' : iRead t = scRead t := hi
    refine ⟨?_, fun _ => hi'⟩
    rw [hs]
    unfold iOk
    rw [hi', hb, ht]; simp
  · refine ⟨?_, fun h => absurd h hs⟩
    rw [Bool.not_eq_true] at hs
    rw [hs, ← Bool.not_eq_true]
    intro hi
    unfold iOk at hi
    rw [Bool.and_eq_true] at hi
    obtain ⟨hb, hq⟩ := hi
    have ht := toList_inj hq
    have hT : setT (iRead t).na (iRead t).va (iRead t).dm (iRead t).pa (iRead t).ag (iRead t).se (iRead t).mo (iRead t).pt = t := by
      unfold scTx setTx at ht
      rw [if_pos hb] at ht; exact ht
    have hc := set_back _ _ _ _ _ (iRead t).se _ (iRead t).pt hb
    rw [hT] at hc
    have hc' : scRead t = iRead t := hc
    have hne := setT_ne (iRead t).na (iRead t).va (iRead t).dm (iRead t).pa (iRead t).ag (iRead t).se (iRead t).mo (iRead t).pt
    rw [hT] at hne
    have : scOk t = true := by
      unfold scOk
      rw [hc', ht, hne]; simp
    rw [this] at hs; cases hs
end Go.Proofs.YthcpmbolnmlohaaDoor

/- The library's digits of a number are decB's. -/
namespace Go.Proofs.YthcpmbolnmlohaaDoor
theorem decA_lib (m : Nat) (h : 0 < m) : Lib.decDigits m = decA m := by
  induction m using Nat.strongRecOn with
  | _ m ih =>
    rw [Lib.decDigits, decA_pos h]
    split
    · rename_i h10
      rw [show m / 10 = 0 by omega, decA_zero, Nat.mod_eq_of_lt h10]; rfl
    · rw [ih (m / 10) (by omega) (by omega)]
theorem dec_lib (n : Nat) : (⟨(Lib.itoa (n : Int)).toArray⟩ : ByteArray) = decB (n : Int) := by
  rw [Lib.itoa_nonneg]
  unfold decB
  by_cases h : n = 0
  · subst h
    rw [if_pos (by omega), Lib.decDigits_one (by decide)]; rfl
  · rw [if_neg (by omega), if_neg (by omega), decA_lib n (by omega)]; rfl
end Go.Proofs.YthcpmbolnmlohaaDoor

/- The library's Split and the digits of a number, as the program calls them, over the contracts laid at this translation. -/
namespace Go.Proofs.YthcpmbolnmlohaaDoor
open Go.RowKit

/-- the library's variable MaxLen holds some number -/
def MaxI (w : World) : Prop := ∃ m : Int, w.cell? ⟨2, 0, none⟩ = some (.int .i64 m)
theorem MaxI.on {w w' : World} (h : MaxI w) (hb : Below w.heap.size w w') : MaxI w' := by
  obtain ⟨m, hm⟩ := h
  have hlt : 2 < w.heap.size := by
    by_cases h : 2 < w.heap.size
    · exact h
    · exfalso
      simp [World.cell?, Array.getElem?_eq_none (show w.heap.size ≤ 2 by omega)] at hm
  exact ⟨m, by rw [(bcell hb).1 _ _ hlt]; exact hm⟩

theorem split_call (s : ByteArray) (w : World) (hG : MaxI w) (hs : s.size < 4294967281) :
    Calls Tryd.prog 36 #[.string s, .string ⟨#[46]⟩] w fun e w' => e = .returned (.slice (some ⟨w.heap.size, 0, none⟩) (splitB s 46).length (splitB s 46).length) ∧ w' = w.alloc (.cells (strCells (splitB s 46)).toArray 9) := by
  obtain ⟨m, hm⟩ := hG
  have h := Any.strings_Split { Tryd.lays146 with } Tryd.lays146.i9 s ⟨#[46]⟩ m w hs hm (Nat.le_refl 1)
  rw [lib_split s 46, lib_count s 46] at h
  exact h
/-- all cuts and the bytes between them -/
theorem cutL_sum (c : UInt8) : ∀ l : List UInt8, ((cutL c l).map (fun p => p.length + 1)).sum = l.length + 1
  | [] => rfl
  | b :: l => by
    have ih := cutL_sum c l
    rw [cutL]
    split
    · simp only [List.map_cons, List.sum_cons, List.length_nil, List.length_cons, ih]; omega
    · split
      · rename_i h; rw [h] at ih; simp at ih
      · rename_i h
        rw [h] at ih
        simp only [List.map_cons, List.sum_cons, List.length_cons] at ih ⊢
        omega
theorem sum_le (L : List ByteArray) (h : ∀ x ∈ L, x.size ≤ 12) : (L.map (fun p => p.data.toList.length + 1)).sum ≤ 13 * L.length := by
  induction L with
  | nil => exact Nat.le_refl _
  | cons a L ih =>
    have h1 := h a (by simp)
    have h2 := ih (fun x hx => h x (by simp [hx]))
    have e : a.data.toList.length = a.size := (Lib.size_eq a).symm
    simp only [List.map_cons, List.sum_cons, List.length_cons, e]
    omega
theorem labelB_le {t : ByteArray} (h : labelB t = true) : t.size ≤ 12 := by
  by_cases hz : 12 < t.size
  · rw [labelB_size (.inr hz)] at h; cases h
  · omega
theorem host_size {s : ByteArray} (hn : (splitB s 46).length ≤ 6) (h : ∀ k (h : k < (splitB s 46).length), labelB ((splitB s 46)[k]) = true) : s.size ≤ 100 := by
  have e := splitB_cut s 46
  have e2 := cutL_sum 46 s.data.toList
  rw [← e, List.map_map] at e2
  have e3 := sum_le (splitB s 46) (fun x hx => by
    obtain ⟨k, hk, rfl⟩ := List.getElem_of_mem hx
    exact labelB_le (h k hk))
  have e4 : s.data.toList.length = s.size := (Lib.size_eq s).symm
  have e5 : ((splitB s 46).map (fun p => p.data.toList.length + 1)).sum = s.size + 1 := by rw [← e4]; exact e2
  omega
theorem hostB_six {s : ByteArray} (hn : (splitB s 46).length ≤ 6) (h : ∀ k (h : k < (splitB s 46).length), labelB ((splitB s 46)[k]) = true) : hostB s = true := by
  rw [hostB_all (host_size hn h) h]; simpa using hn
theorem hostB_many {s : ByteArray} (hn : 6 < (splitB s 46).length) : hostB s = false := by
  unfold hostB; rw [decide_eq_false (show ¬ (splitB s 46).length ≤ 6 by omega)]; simp
end Go.Proofs.YthcpmbolnmlohaaDoor

/- The walks of the program's inLabel, labelRight and pathRight. -/
namespace Go.Proofs.YthcpmbolnmlohaaDoor
open Go.RowKit

set_option maxRecDepth 10000 in
set_option maxHeartbeats 400000 in
theorem inLabel_any (n : Nat) (w : World) :
    Calls Tryd.prog 99 #[.int .i32 n] w fun e w' => e = .returned (.bool (labC n)) ∧ w' = w := by
  rcases (show (n < 45) ∨ (45 ≤ n ∧ n ≤ 45) ∨ (46 ≤ n ∧ n < 48) ∨ (48 ≤ n ∧ n ≤ 57) ∨ (58 ≤ n ∧ n < 97) ∨ (97 ≤ n ∧ n ≤ 122) ∨ (122 < n) by omega)
    with c1 | ⟨c1, c2⟩ | ⟨c1, c2⟩ | ⟨c1, c2⟩ | ⟨c1, c2⟩ | ⟨c1, c2⟩ | c1
  · have b1 : decide ((97 : Int) ≤ (n : Int)) = false := by rw [decide_eq_false_iff_not]; omega
    have b2 : decide ((48 : Int) ≤ (n : Int)) = false := by rw [decide_eq_false_iff_not]; omega
    have b3 : ((n : Int) == 45) = false := by rw [beq_eq_false_iff_ne]; omega
    go_enter Tryd.func99, Tryd.ntmps99
    go_wp2
    go_ret
    exact ⟨ret_bool (labC_no (by omega)).symm, rfl⟩
  · have b1 : decide ((97 : Int) ≤ (n : Int)) = false := by rw [decide_eq_false_iff_not]; omega
    have b2 : decide ((48 : Int) ≤ (n : Int)) = false := by rw [decide_eq_false_iff_not]; omega
    have b3 : ((n : Int) == 45) = true := by rw [beq_iff_eq]; omega
    go_enter Tryd.func99, Tryd.ntmps99
    go_wp2
    go_ret
    exact ⟨ret_bool (labC_yes (by omega)).symm, rfl⟩
  · have b1 : decide ((97 : Int) ≤ (n : Int)) = false := by rw [decide_eq_false_iff_not]; omega
    have b2 : decide ((48 : Int) ≤ (n : Int)) = false := by rw [decide_eq_false_iff_not]; omega
    have b3 : ((n : Int) == 45) = false := by rw [beq_eq_false_iff_ne]; omega
    go_enter Tryd.func99, Tryd.ntmps99
    go_wp2
    go_ret
    exact ⟨ret_bool (labC_no (by omega)).symm, rfl⟩
  · have b1 : decide ((97 : Int) ≤ (n : Int)) = false := by rw [decide_eq_false_iff_not]; omega
    go_enter Tryd.func99, Tryd.ntmps99
    go_wp2
    go_ret
    exact ⟨ret_bool (labC_yes (by omega)).symm, rfl⟩
  · have b1 : decide ((97 : Int) ≤ (n : Int)) = false := by rw [decide_eq_false_iff_not]; omega
    have b2 : decide ((n : Int) ≤ 57) = false := by rw [decide_eq_false_iff_not]; omega
    have b3 : ((n : Int) == 45) = false := by rw [beq_eq_false_iff_ne]; omega
    go_enter Tryd.func99, Tryd.ntmps99
    go_wp2
    go_ret
    exact ⟨ret_bool (labC_no (by omega)).symm, rfl⟩
  · go_enter Tryd.func99, Tryd.ntmps99
    go_wp2
    go_ret
    exact ⟨ret_bool (labC_yes (by omega)).symm, rfl⟩
  · have b1 : decide ((n : Int) ≤ 122) = false := by rw [decide_eq_false_iff_not]; omega
    have b2 : decide ((n : Int) ≤ 57) = false := by rw [decide_eq_false_iff_not]; omega
    have b3 : ((n : Int) == 45) = false := by rw [beq_eq_false_iff_ne]; omega
    go_enter Tryd.func99, Tryd.ntmps99
    go_wp2
    go_ret
    exact ⟨ret_bool (labC_no (by omega)).symm, rfl⟩

set_option maxRecDepth 10000 in
set_option maxHeartbeats 400000 in
theorem labelRight_any (t : ByteArray) (w : World) (ht : t.size ≤ 9223372036854775807) :
    Calls Tryd.prog 77 #[.string t] w fun e w' => e = .returned (.bool (labelB t)) ∧ Below w.heap.size w w' := by
  by_cases h1 : t.size < 1
  · have q1 : decide ((t.size : Int) - 1 < 0) = true := by rw [decide_eq_true_iff]; omega
    go_enter Tryd.func77, Tryd.ntmps77
    go_wp2
    go_ret
    exact ⟨ret_bool (labelB_size (.inl h1)).symm, Below.refl _ _⟩
  have q1 : decide ((t.size : Int) - 1 < 0) = false := by rw [decide_eq_false_iff_not]; omega
  by_cases h2 : 12 < t.size
  · have q2 : decide ((12 : Int) ≤ (t.size : Int) - 1) = true := by rw [decide_eq_true_iff]; omega
    go_enter Tryd.func77, Tryd.ntmps77
    go_wp2
    go_ret
    exact ⟨ret_bool (labelB_size (.inr h2)).symm, Below.refl _ _⟩
  have q2 : decide ((12 : Int) ≤ (t.size : Int) - 1) = false := by rw [decide_eq_false_iff_not]; omega
  have hp : 0 < t.size := by omega
  have hl : t.size - 1 < t.size := by omega
  by_cases h3 : t[0].toNat = 45
  · have q3 : ((t[0].toNat : Int) == 45) = true := by rw [beq_iff_eq]; omega
    have H3 : Hid (t[0].toNat = 45) := h3
    clear h3
    go_enter Tryd.func77, Tryd.ntmps77
    go_wp2
    go_ret
    exact ⟨ret_bool (labelB_first hp H3.out).symm, Below.refl _ _⟩
  have q3 : ((t[0].toNat : Int) == 45) = false := by rw [beq_eq_false_iff_ne]; omega
  have H3 : Hid (¬ t[0].toNat = 45) := h3
  clear h3
  by_cases h4 : t[t.size - 1].toNat = 45
  · have q4 : ((t[t.size - 1].toNat : Int) == 45) = true := by rw [beq_iff_eq]; omega
    have H4 : Hid (t[t.size - 1].toNat = 45) := h4
    clear h4
    go_enter Tryd.func77, Tryd.ntmps77
    go_wp2
    go_ret
    exact ⟨ret_bool (labelB_last hl H4.out).symm, Below.refl _ _⟩
  have q4 : ((t[t.size - 1].toNat : Int) == 45) = false := by rw [beq_eq_false_iff_ne]; omega
  have H4 : Hid (¬ t[t.size - 1].toNat = 45) := h4
  clear h4
  go_enter Tryd.func77, Tryd.ntmps77
  go_wp2
  go_loopw [5] (fun _ wr => ∃ k : Nat, k ≤ t.size ∧ wr = w.iter t k ∧ Hid (∀ i (h : i < t.size), i < k → labC t[i].toNat = true)) (fun _ wr => t.size - wr.iterPos w.heap.size)
  case atStart => exact ⟨0, Nat.zero_le _, rfl, fun i _ hi => absurd hi (by omega)⟩
  case round =>
    obtain ⟨k, hk, rfl, HR⟩ := hrel
    by_cases hlt : k < t.size
    · by_cases ha : t[k].toNat < 128
      · have hnx : ∀ ty, (Instr.next (.pointer (some ⟨w.heap.size, 0, none⟩)) true ty).run Tryd.prog (w.iter t k) = _ := fun ty => run_next_ascii w t k ty hlt ha
        cases hc : labC t[k].toNat with
        | true =>
          have HC : Hid (∀ W, Calls Tryd.prog 99 #[.int .i32 (t[k].toNat : Int)] W fun e w' => e = .returned (.bool true) ∧ w' = W) := fun W => by rw [← hc]; exact inLabel_any _ W
          have HK : Hid (labC t[k].toNat = true) := hc
          clear hc
          go_wp2_with (go_at_call 99; refine (HC.out _).mono ?_; rintro e w2 ⟨rfl, rfl⟩)
          go_roundw
          case rel => exact ⟨k + 1, by omega, rfl, all_succ HR.out hlt HK.out⟩
          case measure => simp; omega
        | false =>
          have HC : Hid (∀ W, Calls Tryd.prog 99 #[.int .i32 (t[k].toNat : Int)] W fun e w' => e = .returned (.bool false) ∧ w' = W) := fun W => by rw [← hc]; exact inLabel_any _ W
          have HK : Hid (labelB t = false) := labelB_at k hlt hc
          clear hc
          go_wp2_with (go_at_call 99; refine (HC.out _).mono ?_; rintro e w2 ⟨rfl, rfl⟩)
          go_ret
          exact ⟨ret_bool HK.out.symm, (Below.refl _ _).alloc (Nat.le_refl _) _⟩
      · have hnx : ∀ ty, (Instr.next (.pointer (some ⟨w.heap.size, 0, none⟩)) true ty).run Tryd.prog (w.iter t k) = _ := fun ty => run_next_any w t k ty hlt
        have hd := (decode_high t k hlt (by omega)).1
        have HK : Hid (labelB t = false) := labelB_at k hlt (labC_no (by omega))
        generalize Utf8.decode t k = d at *
        obtain ⟨r, n⟩ := d
        have hd2 : 128 ≤ r := hd
        have HC : Hid (∀ W, Calls Tryd.prog 99 #[.int .i32 (r : Int)] W fun e w' => e = .returned (.bool false) ∧ w' = W) := fun W => by
          have := inLabel_any r W
          rw [labC_no (by omega)] at this; exact this
        clear hd hd2
        go_wp2_with (go_at_call 99; refine (HC.out _).mono ?_; rintro e w2 ⟨rfl, rfl⟩)
        go_ret
        exact ⟨ret_bool HK.out.symm, (Below.refl _ _).alloc (Nat.le_refl _) _⟩
    · have hnx : ∀ ty, (Instr.next (.pointer (some ⟨w.heap.size, 0, none⟩)) true ty).run Tryd.prog (w.iter t k) = _ := fun ty => run_next_end w t k ty hlt
      go_wp2
      go_ret
      exact ⟨ret_bool (labelB_true (by omega) (by omega) (fun _ => H3.out) (fun _ => H4.out) (fun i h => HR.out i h (by omega))).symm, (Below.refl _ _).alloc (Nat.le_refl _) _⟩
end Go.Proofs.YthcpmbolnmlohaaDoor

/- The walk of the program's HostRight. -/
namespace Go.Proofs.YthcpmbolnmlohaaDoor
open Go.RowKit

theorem mem_le_sum : ∀ {l : List Nat} {x : Nat}, x ∈ l → x ≤ l.sum
  | [], _, h => by cases h
  | a :: l, x, h => by
    rw [List.sum_cons]
    cases h with
    | head => omega
    | tail _ h => have := mem_le_sum h; omega
theorem piece_le {s x : ByteArray} (hx : x ∈ splitB s 46) : x.size ≤ s.size := by
  have h1 : x.data.toList ∈ cutL 46 s.data.toList := by rw [← splitB_cut]; exact List.mem_map.2 ⟨x, hx, rfl⟩
  have h2 := cutL_sum 46 s.data.toList
  have h3 : (x.data.toList.length + 1) ≤ ((cutL 46 s.data.toList).map (fun p => p.length + 1)).sum := mem_le_sum (List.mem_map.2 ⟨_, h1, rfl⟩)
  rw [h2, ← Lib.size_eq, ← Lib.size_eq] at h3
  omega
set_option maxRecDepth 10000 in
set_option maxHeartbeats 400000 in
theorem hostRight_any (s : ByteArray) (w : World) (hG : MaxI w) (hs : s.size ≤ 1048576) :
    Calls Tryd.prog 47 #[.string s] w fun e w' => e = .returned (.bool (hostB s)) ∧ Below w.heap.size w w' := by
  have HC : Hid (∀ W, MaxI W → Calls Tryd.prog 36 #[.string s, .string ⟨#[46]⟩] W fun e w' => e = .returned (.slice (some ⟨W.heap.size, 0, none⟩) (splitB s 46).length (splitB s 46).length) ∧ w' = W.alloc (.cells (strCells (splitB s 46)).toArray 9)) := fun W h => split_call s W h (by omega)
  have HA : Hid ((∀ k (h : k < (splitB s 46).length), labelB ((splitB s 46)[k]) = false → hostB s = false) ∧ ((splitB s 46).length ≤ 6 → (∀ k (h : k < (splitB s 46).length), labelB ((splitB s 46)[k]) = true) → hostB s = true) ∧ (6 < (splitB s 46).length → hostB s = false)) :=
    ⟨fun k h hl => hostB_at k h hl, fun h1 h2 => hostB_six h1 h2, fun h => hostB_many h⟩
  have hn := splitB_len s 46
  have HZ : Hid (∀ x ∈ splitB s 46, x.size ≤ s.size) := fun x hx => piece_le hx
  generalize splitB s 46 = L at *
  have HG : Hid (MaxI w) := hG
  clear hG
  go_enter Tryd.func47, Tryd.ntmps47
  go_wp2_with fail
  refine (HC.out _ HG.out).mono ?_
  rintro e w1 ⟨rfl, rfl⟩
  by_cases h6 : 6 < L.length
  · go_wp2
    go_ret
    exact ⟨ret_bool (HA.out.2.2 h6).symm, (Below.refl _ _).alloc (Nat.le_refl _) _⟩
  have q6 : decide ((6 : Int) < (L.length : Int)) = false := by rw [decide_eq_false_iff_not]; omega
  have hcell : ∀ k (h : k < L.length), (w.alloc (.cells (strCells L).toArray 9)).cell? ⟨w.heap.size, k, none⟩ = some (.string L[k]) := by
    intro k hk
    simp [strCells, hk]
  have hb : Below w.heap.size w (w.alloc (.cells (strCells L).toArray 9)) := (Below.refl _ _).alloc (Nat.le_refl _) _
  have hz1 : w.heap.size < (w.alloc (.cells (strCells L).toArray 9)).heap.size := by simp
  generalize w.alloc (.cells (strCells L).toArray 9) = w1 at *
  go_wp2
  go_loopw [13] (fun i wr => ∃ k : Nat, k ≤ L.length ∧ i = .int .i64 k ∧ Below w1.heap.size w1 wr ∧ Hid (∀ j (h : j < L.length), j < k → labelB L[j] = true)) (fun i _ => L.length - (intOf i).toNat)
  case atStart => exact ⟨0, by omega, rfl, Below.refl _ _, fun j _ hj => absurd hj (by omega)⟩
  case round =>
    obtain ⟨k, hk, rfl, hb2, HR⟩ := hrel
    by_cases hlt : k < L.length
    · have hc1 := hcell k hlt
      have hck : wr.cell? ⟨w.heap.size, k, none⟩ = some (.string L[k]) := by rw [(bcell hb2).1 _ _ hz1]; exact hc1
      have HL : Hid (∀ W, Calls Tryd.prog 77 #[.string L[k]] W fun e w' => e = .returned (.bool (labelB L[k])) ∧ Below W.heap.size W w') := fun W => labelRight_any L[k] W (by have := HZ.out L[k] (List.getElem_mem hlt); omega)
      have HB2 : Hid (Below w1.heap.size w1 wr) := hb2
      have hz2 := hb2.size
      cases hlab : labelB L[k] with
      | true =>
        have HL2 : Hid (labelB L[k] = true) := hlab
        rw [hlab] at HL
        clear hlab hcell hc1 hb2
        generalize hx : L[k] = x at *
        have HX : Hid (L[k] = x) := hx
        clear hx
        go_wp2_with (go_at_call 77; refine (HL.out _).mono ?_; rintro e w2 ⟨rfl, hb3⟩)
        go_roundw
        case rel =>
          refine ⟨k + 1, by omega, by go_num, HB2.out.trans (hb3.mono hz2), ?_⟩
          intro j hj hjk
          by_cases e : j = k
          · subst e; rw [HX.out]; exact HL2.out
          · exact HR.out j hj (by omega)
        case measure => simp [intOf]; omega
      | false =>
        have HF : Hid (hostB s = false) := HA.out.1 k hlt hlab
        rw [hlab] at HL
        clear hlab hcell hc1 hb2
        generalize L[k] = x at *
        go_wp2_with (go_at_call 77; refine (HL.out _).mono ?_; rintro e w2 ⟨rfl, hb3⟩)
        go_ret
        exact ⟨ret_bool HF.out.symm, hb.trans ((HB2.out.trans (hb3.mono hz2)).mono hb.size)⟩
    · have HF : Hid (hostB s = true) := HA.out.2.1 (by omega) (fun j hj => HR.out j hj (by omega))
      clear hcell
      go_wp2
      go_ret
      exact ⟨ret_bool HF.out.symm, hb.trans (hb2.mono hb.size)⟩
end Go.Proofs.YthcpmbolnmlohaaDoor

/- The walks of the program's pathRight, ownPort, placeRight and UrlRight. -/
namespace Go.Proofs.YthcpmbolnmlohaaDoor
open Go.RowKit

set_option maxRecDepth 10000 in
set_option maxHeartbeats 400000 in
theorem pathRight_any (t : ByteArray) (w : World) :
    Calls Tryd.prog 48 #[.string t] w fun e w' => e = .returned (.bool (pathB t)) ∧ Below w.heap.size w w' := by
  by_cases h1 : t.size < 1
  · have q1 : ((t.size : Int) == 0) = true := by rw [beq_iff_eq]; omega
    go_enter Tryd.func48, Tryd.ntmps48
    go_wp2
    go_ret
    exact ⟨ret_bool (pathB_size (.inl h1)).symm, Below.refl _ _⟩
  have q1 : ((t.size : Int) == 0) = false := by rw [beq_eq_false_iff_ne]; omega
  by_cases h2 : 40 < t.size
  · go_enter Tryd.func48, Tryd.ntmps48
    go_wp2
    go_ret
    exact ⟨ret_bool (pathB_size (.inr h2)).symm, Below.refl _ _⟩
  have q2 : decide ((40 : Int) < (t.size : Int)) = false := by rw [decide_eq_false_iff_not]; omega
  have hp : 0 < t.size := by omega
  by_cases h3 : t[0].toNat = 47
  case neg =>
    have q3 : ((t[0].toNat : Int) != 47) = true := by rw [bne_iff_ne]; omega
    have H3 : Hid (¬ t[0].toNat = 47) := h3
    clear h3
    go_enter Tryd.func48, Tryd.ntmps48
    go_wp2
    go_ret
    exact ⟨ret_bool (pathB_first hp H3.out).symm, Below.refl _ _⟩
  have q3 : ((t[0].toNat : Int) != 47) = false := by rw [bne_eq_false_iff_eq]; omega
  have H3 : Hid (t[0].toNat = 47) := h3
  clear h3
  go_enter Tryd.func48, Tryd.ntmps48
  go_wp2
  go_loopw [4] (fun _ wr => ∃ k : Nat, k ≤ t.size ∧ wr = w.iter t k ∧ Hid (∀ i (h : i < t.size), i < k → pathC t[i].toNat = true)) (fun _ wr => t.size - wr.iterPos w.heap.size)
  case atStart => exact ⟨0, Nat.zero_le _, rfl, fun i _ hi => absurd hi (by omega)⟩
  case round =>
    obtain ⟨k, hk, rfl, HR⟩ := hrel
    by_cases hlt : k < t.size
    · by_cases ha : t[k].toNat < 128
      · have hnx : ∀ ty, (Instr.next (.pointer (some ⟨w.heap.size, 0, none⟩)) true ty).run Tryd.prog (w.iter t k) = _ := fun ty => run_next_ascii w t k ty hlt ha
        by_cases d1 : t[k].toNat < 33
        · go_wp2
          go_ret
          exact ⟨ret_bool (pathB_at k hlt (pathC_no (by omega))).symm, (Below.refl _ _).alloc (Nat.le_refl _) _⟩
        have b1 : decide ((t[k].toNat : Int) < 33) = false := by rw [decide_eq_false_iff_not]; omega
        by_cases d2 : 126 < t[k].toNat
        · go_wp2
          go_ret
          exact ⟨ret_bool (pathB_at k hlt (pathC_no (by omega))).symm, (Below.refl _ _).alloc (Nat.le_refl _) _⟩
        have b2 : decide ((126 : Int) < (t[k].toNat : Int)) = false := by rw [decide_eq_false_iff_not]; omega
        by_cases d3 : t[k].toNat = 63
        · have b3 : ((t[k].toNat : Int) == 63) = true := by rw [beq_iff_eq]; omega
          have D3 : Hid (t[k].toNat = 63) := d3
          clear d3
          go_wp2
          go_ret
          exact ⟨ret_bool (pathB_at k hlt (pathC_no (by have := D3.out; omega))).symm, (Below.refl _ _).alloc (Nat.le_refl _) _⟩
        have b3 : ((t[k].toNat : Int) == 63) = false := by rw [beq_eq_false_iff_ne]; omega
        by_cases d4 : t[k].toNat = 35
        · have b4 : ((t[k].toNat : Int) == 35) = true := by rw [beq_iff_eq]; omega
          have D4 : Hid (t[k].toNat = 35) := d4
          clear d4
          go_wp2
          go_ret
          exact ⟨ret_bool (pathB_at k hlt (pathC_no (by have := D4.out; omega))).symm, (Below.refl _ _).alloc (Nat.le_refl _) _⟩
        have b4 : ((t[k].toNat : Int) == 35) = false := by rw [beq_eq_false_iff_ne]; omega
        by_cases d5 : t[k].toNat = 59
        · have b5 : ((t[k].toNat : Int) == 59) = true := by rw [beq_iff_eq]; omega
          have D5 : Hid (t[k].toNat = 59) := d5
          clear d5
          go_wp2
          go_ret
          exact ⟨ret_bool (pathB_at k hlt (pathC_no (by have := D5.out; omega))).symm, (Below.refl _ _).alloc (Nat.le_refl _) _⟩
        have b5 : ((t[k].toNat : Int) == 59) = false := by rw [beq_eq_false_iff_ne]; omega
        have HC : Hid (pathC t[k].toNat = true) := pathC_yes (by omega)
        clear d3 d4 d5
        go_wp2
        go_roundw
        case rel => exact ⟨k + 1, by omega, rfl, all_succ HR.out hlt HC.out⟩
        case measure => simp; omega
      · have hnx : ∀ ty, (Instr.next (.pointer (some ⟨w.heap.size, 0, none⟩)) true ty).run Tryd.prog (w.iter t k) = _ := fun ty => run_next_any w t k ty hlt
        have hd := (decode_high t k hlt (by omega)).1
        have HK : Hid (pathB t = false) := pathB_at k hlt (pathC_no (by omega))
        generalize Utf8.decode t k = d at *
        obtain ⟨r, n⟩ := d
        have hd2 : 128 ≤ r := hd
        have b1 : decide ((r : Int) < 33) = false := by rw [decide_eq_false_iff_not]; omega
        have b2 : decide ((126 : Int) < (r : Int)) = true := by rw [decide_eq_true_iff]; omega
        clear hd
        go_wp2
        go_ret
        exact ⟨ret_bool HK.out.symm, (Below.refl _ _).alloc (Nat.le_refl _) _⟩
    · have hnx : ∀ ty, (Instr.next (.pointer (some ⟨w.heap.size, 0, none⟩)) true ty).run Tryd.prog (w.iter t k) = _ := fun ty => run_next_end w t k ty hlt
      go_wp2
      go_ret
      exact ⟨ret_bool (pathB_true (by omega) (by omega) (fun _ => H3.out) (fun i h => HR.out i h (by omega))).symm, (Below.refl _ _).alloc (Nat.le_refl _) _⟩
end Go.Proofs.YthcpmbolnmlohaaDoor

/- The walks of the program's pairRight, modeRight and SetRight. Written by implset.py. -/
namespace Go.Proofs.YthcpmbolnmlohaaDoor
open Go.RowKit

set_option maxRecDepth 10000 in
set_option maxHeartbeats 1000000 in
theorem modeRight_any (mo : Int) (w : World) :
    Calls Tryd.prog 49 #[.int .i64 mo] w fun e w' => e = .returned (.bool (modeB mo)) ∧ w' = w := by
  have HM : Hid (modeB mo = (decide (0 ≤ mo) && decide (mo ≤ 2))) := rfl
  generalize modeB mo = R at *
  by_cases h0 : 0 ≤ mo
  · have q0 : decide ((0 : Int) ≤ mo) = true := by rw [decide_eq_true_iff]; exact h0
    go_enter Tryd.func49, Tryd.ntmps49
    go_wp2
    go_ret
    exact ⟨ret_bool (by rw [HM.out, q0]; rfl), rfl⟩
  · have q0 : decide ((0 : Int) ≤ mo) = false := by rw [decide_eq_false_iff_not]; exact h0
    go_enter Tryd.func49, Tryd.ntmps49
    go_wp2
    go_ret
    exact ⟨ret_bool (by rw [HM.out, q0]; rfl), rfl⟩
set_option maxRecDepth 10000 in
set_option maxHeartbeats 8000000 in
theorem setRight_any (na va dm pa : ByteArray) (ag : Int) (se : Bool) (mo : Int) (pt : Bool) (w : World) (hG : MaxI w) (hdm : dm.size ≤ 1048576) :
    Calls Tryd.prog 19 #[setV na va dm pa ag se mo pt] w fun e w' => e = .returned (.bool (setB na va dm pa ag mo)) ∧ Below w.heap.size w w' := by
  have K1 : Hid (∀ W, Calls Tryd.prog 46 #[.agg #[.string na, .string va]] W fun e w' => e = .returned (.bool (pairB na va)) ∧ Below W.heap.size W w') := fun W => pairRight_any na va W
  have K3 : Hid (∀ W, Below w.heap.size w W → Calls Tryd.prog 47 #[.string dm] W fun e w' => e = .returned (.bool (hostB dm)) ∧ Below W.heap.size W w') := fun W hb => hostRight_any dm W (hG.on hb) hdm
  have K4 : Hid (∀ W, Calls Tryd.prog 48 #[.string pa] W fun e w' => e = .returned (.bool (pathB pa)) ∧ Below W.heap.size W w') := fun W => pathRight_any pa W
  have K6 : Hid (∀ W, Calls Tryd.prog 49 #[.int .i64 mo] W fun e w' => e = .returned (.bool (modeB mo)) ∧ w' = W) := fun W => modeRight_any mo W
  have HE : Hid (setB na va dm pa ag mo = (pairB na va && (dm.toList.isEmpty || hostB dm) && (pa.toList.isEmpty || pathB pa) && (decide (-1 ≤ ag) && decide (ag ≤ 1000000)) && modeB mo)) := rfl
  clear hG hdm
  unfold setV
  generalize setB na va dm pa ag mo = R at *
  generalize pairB na va = b1 at *
  generalize hostB dm = b3 at *
  generalize pathB pa = b4 at *
  generalize modeB mo = b6 at *
  go_enter Tryd.func19, Tryd.ntmps19
  go_wp2_with fail
  refine (K1.out _).mono ?_
  rintro e w1 ⟨rfl, hb1⟩
  have hz1 : w.heap.size < w1.heap.size := by have := hb1.size; simp at this; omega
  have g2 : w1.cell? ⟨w.heap.size, 2, none⟩ = some (.string dm) := by rw [(bcell hb1).1 _ _ (by simp)]; simp
  have g3 : w1.cell? ⟨w.heap.size, 3, none⟩ = some (.string pa) := by rw [(bcell hb1).1 _ _ (by simp)]; simp
  have g4 : w1.cell? ⟨w.heap.size, 4, none⟩ = some (.int .i64 ag) := by rw [(bcell hb1).1 _ _ (by simp)]; simp
  have g6 : w1.cell? ⟨w.heap.size, 6, none⟩ = some (.int .i64 mo) := by rw [(bcell hb1).1 _ _ (by simp)]; simp
  have B1 : Hid (Below w.heap.size w w1) := ((Below.refl _ _).alloc (Nat.le_refl _) _).trans (hb1.mono (by simp))
  clear hb1
  cases b1 with
  | false =>
    go_wp2
    go_ret
    exact ⟨ret_bool (by rw [HE.out]; first | rfl | simp [*]), B1.out⟩
  | true =>
    cases hdm : dm.toList.isEmpty with
    | true =>
      cases hpa : pa.toList.isEmpty with
      | true =>
        by_cases ha : -1 ≤ ag
        · have q1 : decide ((-1 : Int) ≤ ag) = true := by rw [decide_eq_true_iff]; exact ha
          by_cases hc : ag ≤ 1000000
          · have q2 : decide (ag ≤ (1000000 : Int)) = true := by rw [decide_eq_true_iff]; exact hc
            go_wp2_with (go_at_call 49; refine (K6.out _).mono ?_; rintro e w6 ⟨rfl, rfl⟩)
            go_ret
            exact ⟨ret_bool (by rw [HE.out]; first | rfl | (cases b6 <;> simp [*])), B1.out⟩
          · have q2 : decide (ag ≤ (1000000 : Int)) = false := by rw [decide_eq_false_iff_not]; exact hc
            go_wp2
            go_ret
            exact ⟨ret_bool (by rw [HE.out]; first | rfl | simp [*]), B1.out⟩
        · have q1 : decide ((-1 : Int) ≤ ag) = false := by rw [decide_eq_false_iff_not]; exact ha
          go_wp2
          go_ret
          exact ⟨ret_bool (by rw [HE.out]; first | rfl | simp [*]), B1.out⟩
      | false =>
        go_wp2_with fail
        refine (K4.out _).mono ?_
        rintro e w4 ⟨rfl, hb4⟩
        have l4 : w4.cell? ⟨w.heap.size, 4, none⟩ = some (.int .i64 ag) := by rw [(bcell hb4).1 _ _ hz1]; exact g4
        have l6 : w4.cell? ⟨w.heap.size, 6, none⟩ = some (.int .i64 mo) := by rw [(bcell hb4).1 _ _ hz1]; exact g6
        have B4 : Hid (Below w.heap.size w w4) := B1.out.trans (hb4.mono B1.out.size)
        clear hb4 g4 g6
        cases b4 with
        | false =>
          go_wp2
          go_ret
          exact ⟨ret_bool (by rw [HE.out]; first | rfl | simp [*]), B4.out⟩
        | true =>
          by_cases ha : -1 ≤ ag
          · have q1 : decide ((-1 : Int) ≤ ag) = true := by rw [decide_eq_true_iff]; exact ha
            by_cases hc : ag ≤ 1000000
            · have q2 : decide (ag ≤ (1000000 : Int)) = true := by rw [decide_eq_true_iff]; exact hc
              go_wp2_with (go_at_call 49; refine (K6.out _).mono ?_; rintro e w6 ⟨rfl, rfl⟩)
              go_ret
              exact ⟨ret_bool (by rw [HE.out]; first | rfl | (cases b6 <;> simp [*])), B4.out⟩
            · have q2 : decide (ag ≤ (1000000 : Int)) = false := by rw [decide_eq_false_iff_not]; exact hc
              go_wp2
              go_ret
              exact ⟨ret_bool (by rw [HE.out]; first | rfl | simp [*]), B4.out⟩
          · have q1 : decide ((-1 : Int) ≤ ag) = false := by rw [decide_eq_false_iff_not]; exact ha
            go_wp2
            go_ret
            exact ⟨ret_bool (by rw [HE.out]; first | rfl | simp [*]), B4.out⟩
    | false =>
      go_wp2_with fail
      refine (K3.out _ B1.out).mono ?_
      rintro e w3 ⟨rfl, hb3⟩
      have k3 : w3.cell? ⟨w.heap.size, 3, none⟩ = some (.string pa) := by rw [(bcell hb3).1 _ _ hz1]; exact g3
      have k4 : w3.cell? ⟨w.heap.size, 4, none⟩ = some (.int .i64 ag) := by rw [(bcell hb3).1 _ _ hz1]; exact g4
      have k6 : w3.cell? ⟨w.heap.size, 6, none⟩ = some (.int .i64 mo) := by rw [(bcell hb3).1 _ _ hz1]; exact g6
      have B3 : Hid (Below w.heap.size w w3) := B1.out.trans (hb3.mono B1.out.size)
      have hz3 : w.heap.size < w3.heap.size := Nat.lt_of_lt_of_le hz1 hb3.size
      clear hb3 g2 g3 g4 g6
      cases b3 with
      | false =>
        go_wp2
        go_ret
        exact ⟨ret_bool (by rw [HE.out]; first | rfl | simp [*]), B3.out⟩
      | true =>
        cases hpa : pa.toList.isEmpty with
        | true =>
          by_cases ha : -1 ≤ ag
          · have q1 : decide ((-1 : Int) ≤ ag) = true := by rw [decide_eq_true_iff]; exact ha
            by_cases hc : ag ≤ 1000000
            · have q2 : decide (ag ≤ (1000000 : Int)) = true := by rw [decide_eq_true_iff]; exact hc
              go_wp2_with (go_at_call 49; refine (K6.out _).mono ?_; rintro e w6 ⟨rfl, rfl⟩)
              go_ret
              exact ⟨ret_bool (by rw [HE.out]; first | rfl | (cases b6 <;> simp [*])), B3.out⟩
            · have q2 : decide (ag ≤ (1000000 : Int)) = false := by rw [decide_eq_false_iff_not]; exact hc
              go_wp2
              go_ret
              exact ⟨ret_bool (by rw [HE.out]; first | rfl | simp [*]), B3.out⟩
          · have q1 : decide ((-1 : Int) ≤ ag) = false := by rw [decide_eq_false_iff_not]; exact ha
            go_wp2
            go_ret
            exact ⟨ret_bool (by rw [HE.out]; first | rfl | simp [*]), B3.out⟩
        | false =>
          go_wp2_with fail
          refine (K4.out _).mono ?_
          rintro e w4 ⟨rfl, hb4⟩
          have l4 : w4.cell? ⟨w.heap.size, 4, none⟩ = some (.int .i64 ag) := by rw [(bcell hb4).1 _ _ hz3]; exact k4
          have l6 : w4.cell? ⟨w.heap.size, 6, none⟩ = some (.int .i64 mo) := by rw [(bcell hb4).1 _ _ hz3]; exact k6
          have B4 : Hid (Below w.heap.size w w4) := B3.out.trans (hb4.mono B3.out.size)
          clear hb4 k4 k6
          cases b4 with
          | false =>
            go_wp2
            go_ret
            exact ⟨ret_bool (by rw [HE.out]; first | rfl | simp [*]), B4.out⟩
          | true =>
            by_cases ha : -1 ≤ ag
            · have q1 : decide ((-1 : Int) ≤ ag) = true := by rw [decide_eq_true_iff]; exact ha
              by_cases hc : ag ≤ 1000000
              · have q2 : decide (ag ≤ (1000000 : Int)) = true := by rw [decide_eq_true_iff]; exact hc
                go_wp2_with (go_at_call 49; refine (K6.out _).mono ?_; rintro e w6 ⟨rfl, rfl⟩)
                go_ret
                exact ⟨ret_bool (by rw [HE.out]; first | rfl | (cases b6 <;> simp [*])), B4.out⟩
              · have q2 : decide (ag ≤ (1000000 : Int)) = false := by rw [decide_eq_false_iff_not]; exact hc
                go_wp2
                go_ret
                exact ⟨ret_bool (by rw [HE.out]; first | rfl | simp [*]), B4.out⟩
            · have q1 : decide ((-1 : Int) ≤ ag) = false := by rw [decide_eq_false_iff_not]; exact ha
              go_wp2
              go_ret
              exact ⟨ret_bool (by rw [HE.out]; first | rfl | simp [*]), B4.out⟩
end Go.Proofs.YthcpmbolnmlohaaDoor

/- The digits of a number, as the library tells them. -/
namespace Go.Proofs.YthcpmbolnmlohaaDoor
open Go.RowKit

/-- the library's powers of ten -/
def PowI (w : World) : Prop := Lib.TabIs Tryd.prog w "internal/strconv.uint64pow10" .u64 Lib.pow10Tab
theorem PowI.on {w w' : World} (h : PowI w) (hb : Below w.heap.size w w') : PowI w' := Lib.tabBelow_of_tabIs h w' hb

theorem below_grow (w : World) (k : Nat) (os : Array Obj) : Below w.heap.size w (Sort.grow (w.drewN k) os) :=
  ⟨rfl, rfl, rfl, by simp [Sort.grow], fun i hi => by
    show ((w.drewN k).heap ++ os)[i]? = _
    rw [Array.getElem?_append_left (show i < (w.drewN k).heap.size from hi)]
    rfl⟩
theorem dec_call (n : Int) (w : World) (hT : PowI w) (h0 : 0 ≤ n) (h : n ≤ 9223372036854775807) :
    Calls Tryd.prog 52 #[.int .i64 n, .int .i64 10] w fun e w' => e = .returned (.string (decB n)) ∧ Below w.heap.size w w' := by
  obtain ⟨m, rfl⟩ := Int.eq_ofNat_of_zero_le h0
  refine (Any.strconv_FormatInt_10 Tryd.lays173 (m : Int) (by omega) h w hT).mono ?_
  rintro e w' ⟨rfl, k, os, rfl⟩
  exact ⟨ret_text (dec_lib m), below_grow w k os⟩

end Go.Proofs.YthcpmbolnmlohaaDoor

/- The walks of the program's pairText and SetText. Written by implsettext.py. -/
namespace Go.Proofs.YthcpmbolnmlohaaDoor
open Go.RowKit

theorem o1_len (dm : ByteArray) : (o1 dm).length ≤ 1 := by unfold o1; split <;> simp
theorem o2_len (dm : ByteArray) : (o2 dm).length ≤ 1 := by unfold o2; split <;> simp
theorem o3_len (ag : Int) : (o3 ag).length ≤ 1 := by unfold o3; split <;> simp
theorem o4_len (b : Bool) : (o4 b).length ≤ 1 := by unfold o4; split <;> simp
theorem o5_len (m : Int) : (o5 m).length ≤ 1 := by
  unfold o5
  split
  · simp
  · split <;> simp
theorem o6_len (b : Bool) : (o6 b).length ≤ 1 := by unfold o6; split <;> simp
set_option maxRecDepth 10000 in
set_option maxHeartbeats 16000000 in
theorem setText_any (na va dm pa : ByteArray) (ag : Int) (se : Bool) (mo : Int) (pt : Bool) (w : World) (hG : MaxI w) (hT : PowI w) (hdm : dm.size ≤ 1048576) :
    Calls Tryd.prog 21 #[setV na va dm pa ag se mo pt] w fun e w' => e = .returned (.string (setTx na va dm pa ag se mo pt)) ∧ Below w.heap.size w w' := by
  have K1 : Hid (∀ W, Below w.heap.size w W → Calls Tryd.prog 19 #[.agg #[.string na, .string va, .string dm, .string pa, .int .i64 ag, .bool se, .int .i64 mo, .bool pt]] W fun e w' => e = .returned (.bool (setB na va dm pa ag mo)) ∧ Below W.heap.size W w') := fun W hb => setRight_any na va dm pa ag se mo pt W (hG.on hb) hdm
  have HX : Hid (setTx na va dm pa ag se mo pt = if setB na va dm pa ag mo = true then setT na va dm pa ag se mo pt else ⟨#[]⟩) := rfl
  by_cases hR : setB na va dm pa ag mo = true
  case neg =>
    rw [Bool.not_eq_true] at hR
    rw [hR] at K1 HX
    clear hG hT hdm
    generalize setTx na va dm pa ag se mo pt = R at *
    unfold setV
    go_enter Tryd.func21, Tryd.ntmps21
    go_wp2_with fail
    refine (K1.out _ ((Below.refl _ _).alloc (Nat.le_refl _) _)).mono ?_
    rintro e w1 ⟨rfl, hb1⟩
    go_wp2
    go_ret
    exact ⟨ret_text HX.out.symm, ((Below.refl _ _).alloc (Nat.le_refl _) _).trans (hb1.mono (by simp))⟩
  obtain ⟨h1, h2, h3, h4, h5, h6⟩ := setB_parts hR
  rw [hR, if_pos rfl] at HX
  rw [hR] at K1
  have K2 : Hid (∀ W, Calls Tryd.prog 51 #[.agg #[.string na, .string va]] W fun e w' => e = .returned (.string (na ++ equ ++ va)) ∧ Below W.heap.size W w') := fun W => pairText_any na va W (by omega) (by omega)
  have K3 : Hid (0 ≤ ag → ∀ W, Below w.heap.size w W → Calls Tryd.prog 52 #[.int .i64 ag, .int .i64 10] W fun e w' => e = .returned (.string (decB ag)) ∧ Below W.heap.size W w') := fun h0 W hb => dec_call ag W (hT.on hb) h0 (by omega)
  have hd := decB_size (n := ag) (by omega) (by omega)
  have HS : Hid (setT na va dm pa ag se mo pt = joinB ([na ++ equ ++ va] ++ o1 dm ++ o2 pa ++ o3 ag ++ o4 se ++ o5 mo ++ o6 pt) semi ∧ (setT na va dm pa ag se mo pt).size ≤ 1000) := by
    refine ⟨?_, ?_⟩
    · rw [setT_flat, ← join_flat]
      simp only [List.cons_append, List.append_assoc, List.nil_append]
    · have s0 := setT0_size h1 h2
      have s1 := setT1_size (dm := dm) s0 h3
      have s2 := setT2_size (pa := pa) s1 h4
      have s3 := setT3_size (ag := ag) s2 (by omega) (by omega)
      have s4 := setT4_size (se := se) s3
      have s5 := setT5_size (mo := mo) s4
      unfold setT setT6
      split
      · rw [ByteArray.size_append]; show _ + 13 ≤ 1000; omega
      · omega
  have E1 : Hid (o1 dm = if dm.toList.isEmpty = true then [] else [⟨#[68, 111, 109, 97, 105, 110, 61]⟩ ++ dm]) := rfl
  have E2 : Hid (o2 pa = if pa.toList.isEmpty = true then [] else [⟨#[80, 97, 116, 104, 61]⟩ ++ pa]) := rfl
  have E3 : Hid (o3 ag = if 0 ≤ ag then [⟨#[77, 97, 120, 45, 65, 103, 101, 61]⟩ ++ decB ag] else []) := rfl
  have E4 : Hid (o4 se = if se = true then [⟨#[83, 101, 99, 117, 114, 101]⟩] else []) := rfl
  have E5 : Hid (o5 mo = if mo = 1 then [⟨#[83, 97, 109, 101, 83, 105, 116, 101, 61, 83, 116, 114, 105, 99, 116]⟩] else if mo = 2 then [⟨#[83, 97, 109, 101, 83, 105, 116, 101, 61, 78, 111, 110, 101]⟩] else []) := rfl
  have E6 : Hid (o6 pt = if pt = true then [⟨#[80, 97, 114, 116, 105, 116, 105, 111, 110, 101, 100]⟩] else []) := rfl
  have n1 := o1_len dm
  have n2 := o2_len pa
  have n3 := o3_len ag
  have n4 := o4_len se
  have n5 := o5_len mo
  have n6 := o6_len pt
  obtain ⟨i0, hi, hy0, hy1, hy2⟩ := info_parts infoStr
  clear hG hT hdm
  rw [HS.out.1] at HX
  have HZ : Hid ((joinB ([na ++ equ ++ va] ++ o1 dm ++ o2 pa ++ o3 ag ++ o4 se ++ o5 mo ++ o6 pt) semi).size ≤ 1000) := by rw [← HS.out.1]; exact HS.out.2
  clear HS
  generalize setTx na va dm pa ag se mo pt = R at *
  generalize na ++ equ ++ va = x0 at *
  generalize decB ag = dd at *
  unfold setV
  go_enter Tryd.func21, Tryd.ntmps21
  go_wp2_with fail
  refine (K1.out _ ((Below.refl _ _).alloc (Nat.le_refl _) _)).mono ?_
  rintro e w1 ⟨rfl, hb1⟩
  have T1 := Cells.below (W := (w.alloc (.cells #[.string na, .string va, .string dm, .string pa, .int .i64 ag, .bool se, .int .i64 mo, .bool pt] 32))) (L := [(⟨w.heap.size, 0, none⟩, .string na), (⟨w.heap.size, 1, none⟩, .string va), (⟨w.heap.size, 2, none⟩, .string dm), (⟨w.heap.size, 3, none⟩, .string pa), (⟨w.heap.size, 4, none⟩, .int .i64 ag), (⟨w.heap.size, 5, none⟩, .bool se), (⟨w.heap.size, 6, none⟩, .int .i64 mo), (⟨w.heap.size, 7, none⟩, .bool pt)]) ⟨by simp, by simp, by simp, by simp, by simp, by simp, by simp, by simp, trivial⟩ hb1
  simp only [Cells] at T1
  obtain ⟨p0, p1, p2, p3, p4, p5, p6, p7, -⟩ := T1
  have B1 : Hid (Below w.heap.size w w1) := ((Below.refl _ _).alloc (Nat.le_refl _) _).trans (hb1.mono (by simp))
  have hz1 : w.heap.size < w1.heap.size := by have := hb1.size; simp at this; omega
  clear hb1 K1
  go_wp2_with fail
  refine (K2.out _).mono ?_
  rintro e w2 ⟨rfl, hb2⟩
  have r2 : w2.cell? ⟨w.heap.size, 2, none⟩ = some (.string dm) := by rw [(bcell hb2).1 _ _ hz1]; exact p2
  have r3 : w2.cell? ⟨w.heap.size, 3, none⟩ = some (.string pa) := by rw [(bcell hb2).1 _ _ hz1]; exact p3
  have r4 : w2.cell? ⟨w.heap.size, 4, none⟩ = some (.int .i64 ag) := by rw [(bcell hb2).1 _ _ hz1]; exact p4
  have r5 : w2.cell? ⟨w.heap.size, 5, none⟩ = some (.bool se) := by rw [(bcell hb2).1 _ _ hz1]; exact p5
  have r6 : w2.cell? ⟨w.heap.size, 6, none⟩ = some (.int .i64 mo) := by rw [(bcell hb2).1 _ _ hz1]; exact p6
  have r7 : w2.cell? ⟨w.heap.size, 7, none⟩ = some (.bool pt) := by rw [(bcell hb2).1 _ _ hz1]; exact p7
  have B2 : Hid (Below w.heap.size w w2) := B1.out.trans (hb2.mono B1.out.size)
  have hz2 : w.heap.size < w2.heap.size := Nat.lt_of_lt_of_le hz1 hb2.size
  clear hb2 p0 p1 p2 p3 p4 p5 p6 p7 K2
  have HC : Hid (∀ W, Below w2.heap.size w2 W → W.cell? ⟨w.heap.size, 2, none⟩ = some (.string dm) ∧ W.cell? ⟨w.heap.size, 3, none⟩ = some (.string pa) ∧ W.cell? ⟨w.heap.size, 4, none⟩ = some (.int .i64 ag) ∧ W.cell? ⟨w.heap.size, 5, none⟩ = some (.bool se) ∧ W.cell? ⟨w.heap.size, 6, none⟩ = some (.int .i64 mo) ∧ W.cell? ⟨w.heap.size, 7, none⟩ = some (.bool pt)) := fun W hb => ⟨by rw [(bcell hb).1 _ _ hz2]; exact r2, by rw [(bcell hb).1 _ _ hz2]; exact r3, by rw [(bcell hb).1 _ _ hz2]; exact r4, by rw [(bcell hb).1 _ _ hz2]; exact r5, by rw [(bcell hb).1 _ _ hz2]; exact r6, by rw [(bcell hb).1 _ _ hz2]; exact r7⟩
  clear r2 r3 r4 r5 r6 r7
  have O1 : Hid ((w2.alloc (.cells #[.string x0] 9)).ownsRow w2.heap.size 9 1 (.slice (some ⟨w2.heap.size, 0, none⟩) 1 1) [x0].length (strCells [x0])) := own_one w2 _ x0
  have A1 : Hid (Below w2.heap.size w2 (w2.alloc (.cells #[.string x0] 9))) := (Below.refl _ _).alloc (Nat.le_refl _) _
  obtain ⟨c2, c3, c4, c5, c6, c7⟩ := HC.out _ A1.out
  go_upto_if 16 with fail
  generalize w2.alloc (.cells #[.string x0] 9) = wA at *
  have t0 := A1.out.size
  go_cut [3] (fun s wx => ∃ v, s = v ∧ Hid (wx.ownsRow w2.heap.size 9 1 v ([x0] ++ o1 dm).length (strCells ([x0] ++ o1 dm))) ∧ Hid (Below w2.heap.size w2 wx))
  case first =>
    cases hdm : dm.toList.isEmpty with
    | true =>
      have HE : Hid (o1 dm = []) := by show _ = _; rw [E1.out, if_pos hdm]
      go_wp2_with fail
      go_meet
      case rel => exact ⟨_, rfl, by rw [HE.out, List.append_nil]; exact O1.out, A1⟩
    | false =>
      have HE : Hid (o1 dm = [(⟨#[68, 111, 109, 97, 105, 110, 61]⟩ : ByteArray) ++ dm]) := by show _ = _; rw [E1.out, if_neg (by rw [hdm]; decide)]
      go_wp2_with (at_builtin; go_must (refine wpList_append_own _ rfl _ _ 52 rfl w2.heap.size 9 i0 (.string ⟨#[]⟩) 1 16 Tryd.underlying52 hi hy0 hy1 hy2 rfl (by decide) _ _ _ rfl (O1.out.alloc _) ⟨wA.heap.size, 0, none⟩ 1 1 [.string ((⟨#[68, 111, 109, 97, 105, 110, 61]⟩ : ByteArray) ++ dm)] rfl rfl (cell_one_new _ _ _) (by intro u hu; simp at hu; subst hu; rfl) (by unfold maxLen; show 1 + 1 ≤ _; omega) (by show (1 + 1) * 16 ≤ _; omega) (by simp; omega) ?_))
      intro v4 w4 ho hg _
      rw [strCells_snoc] at ho
      have O4 : Hid (w4.ownsRow w2.heap.size 9 1 v4 ([x0] ++ [(⟨#[68, 111, 109, 97, 105, 110, 61]⟩ : ByteArray) ++ dm]).length (strCells ([x0] ++ [(⟨#[68, 111, 109, 97, 105, 110, 61]⟩ : ByteArray) ++ dm]))) := own_cast ho (rfl) (by simp)
      have A4 : Hid (Below w2.heap.size w2 w4) := (A1.out.alloc A1.out.size _).grown hg (by have := A1.out.size; simp; omega) (fun j hj => (O1.out.lt j hj).1)
      clear ho hg
      go_wp2_with fail
      go_meet
      case rel => exact ⟨_, rfl, by rw [HE.out]; exact O4.out, A4⟩
  case rest =>
    clear c2 c3 c4 c5 c6 c7
    obtain ⟨v10, rfl, R1, Q1⟩ := hcut
    obtain ⟨c2, c3, c4, c5, c6, c7⟩ := HC.out _ Q1.out
    have t1 := Q1.out.size
    go_upto_if 25 with fail
    go_cut [3] (fun s wx => ∃ v, s = v ∧ Hid (wx.ownsRow w2.heap.size 9 1 v ([x0] ++ o1 dm ++ o2 pa).length (strCells ([x0] ++ o1 dm ++ o2 pa))) ∧ Hid (Below w2.heap.size w2 wx))
    case first =>
      cases hpa : pa.toList.isEmpty with
      | true =>
        have HE : Hid (o2 pa = []) := by show _ = _; rw [E2.out, if_pos hpa]
        go_wp2_with fail
        go_meet
        case rel => exact ⟨_, rfl, by rw [HE.out, List.append_nil]; exact R1.out, Q1⟩
      | false =>
        have HE : Hid (o2 pa = [(⟨#[80, 97, 116, 104, 61]⟩ : ByteArray) ++ pa]) := by show _ = _; rw [E2.out, if_neg (by rw [hpa]; decide)]
        go_wp2_with (at_builtin; go_must (refine wpList_append_own _ rfl _ _ 52 rfl w2.heap.size 9 i0 (.string ⟨#[]⟩) 1 16 Tryd.underlying52 hi hy0 hy1 hy2 rfl (by decide) _ _ _ rfl (R1.out.alloc _) ⟨wc.heap.size, 0, none⟩ 1 1 [.string ((⟨#[80, 97, 116, 104, 61]⟩ : ByteArray) ++ pa)] rfl rfl (cell_one_new _ _ _) (by intro u hu; simp at hu; subst hu; rfl) (by unfold maxLen; simp only [List.length_append, List.length_singleton]; omega) (by simp only [List.length_append, List.length_singleton]; omega) (by simp; omega) ?_))
        intro v4 w4 ho hg _
        rw [strCells_snoc] at ho
        have O4 : Hid (w4.ownsRow w2.heap.size 9 1 v4 ([x0] ++ o1 dm ++ [(⟨#[80, 97, 116, 104, 61]⟩ : ByteArray) ++ pa]).length (strCells ([x0] ++ o1 dm ++ [(⟨#[80, 97, 116, 104, 61]⟩ : ByteArray) ++ pa]))) := own_cast ho (by simp only [List.length_append, List.length_cons, List.length_nil]; omega) (by simp)
        have A4 : Hid (Below w2.heap.size w2 w4) := (Q1.out.alloc Q1.out.size _).grown hg (by have := Q1.out.size; simp; omega) (fun j hj => (R1.out.lt j hj).1)
        clear ho hg
        go_wp2_with fail
        go_meet
        case rel => exact ⟨_, rfl, by rw [HE.out]; exact O4.out, A4⟩
    case rest =>
      clear c2 c3 c4 c5 c6 c7
      obtain ⟨v11, rfl, R2, Q2⟩ := hcut
      obtain ⟨c2, c3, c4, c5, c6, c7⟩ := HC.out _ Q2.out
      have t2 := Q2.out.size
      go_upto_if 34 with fail
      go_cut [3] (fun s wx => ∃ v, s = v ∧ Hid (wx.ownsRow w2.heap.size 9 1 v ([x0] ++ o1 dm ++ o2 pa ++ o3 ag).length (strCells ([x0] ++ o1 dm ++ o2 pa ++ o3 ag))) ∧ Hid (Below w2.heap.size w2 wx))
      case first =>
        by_cases hag : ag = -1
        · have HE : Hid (o3 ag = []) := by show _ = _; rw [E3.out, if_neg (by omega)]
          have q : (ag == -1) = true := by rw [beq_iff_eq]; exact hag
          go_wp2_with fail
          go_meet
          case rel => exact ⟨_, rfl, by rw [HE.out, List.append_nil]; exact R2.out, Q2⟩
        · have HE : Hid (o3 ag = [(⟨#[77, 97, 120, 45, 65, 103, 101, 61]⟩ : ByteArray) ++ dd]) := by show _ = _; rw [E3.out, if_pos (by omega)]
          have q : (ag == -1) = false := by rw [beq_eq_false_iff_ne]; exact hag
          go_wp2_with fail
          refine (K3.out (by omega) _ (B2.out.trans (Q2.out.mono B2.out.size))).mono ?_
          rintro e w3 ⟨rfl, hb3⟩
          have O3 : Hid (w3.ownsRow w2.heap.size 9 1 u3 ([x0] ++ o1 dm ++ o2 pa).length (strCells ([x0] ++ o1 dm ++ o2 pa))) := own_below R2.out hb3
          have A3 : Hid (Below w2.heap.size w2 w3) := Q2.out.trans (hb3.mono Q2.out.size)
          clear hb3
          have s3 := A3.out.size
          go_wp2_with (at_builtin; go_must (refine wpList_append_own _ rfl _ _ 52 rfl w2.heap.size 9 i0 (.string ⟨#[]⟩) 1 16 Tryd.underlying52 hi hy0 hy1 hy2 rfl (by decide) _ _ _ rfl (O3.out.alloc _) ⟨w3.heap.size, 0, none⟩ 1 1 [.string ((⟨#[77, 97, 120, 45, 65, 103, 101, 61]⟩ : ByteArray) ++ dd)] rfl rfl (cell_one_new _ _ _) (by intro u hu; simp at hu; subst hu; rfl) (by unfold maxLen; simp only [List.length_append, List.length_singleton]; omega) (by simp only [List.length_append, List.length_singleton]; omega) (by simp; omega) ?_))
          intro v4 w4 ho hg _
          rw [strCells_snoc] at ho
          have O4 : Hid (w4.ownsRow w2.heap.size 9 1 v4 ([x0] ++ o1 dm ++ o2 pa ++ [(⟨#[77, 97, 120, 45, 65, 103, 101, 61]⟩ : ByteArray) ++ dd]).length (strCells ([x0] ++ o1 dm ++ o2 pa ++ [(⟨#[77, 97, 120, 45, 65, 103, 101, 61]⟩ : ByteArray) ++ dd]))) := own_cast ho (by simp only [List.length_append, List.length_cons, List.length_nil]; omega) (by simp)
          have A4 : Hid (Below w2.heap.size w2 w4) := (A3.out.alloc A3.out.size _).grown hg (by have := A3.out.size; simp; omega) (fun j hj => (O3.out.lt j hj).1)
          clear ho hg
          go_wp2_with fail
          go_meet
          case rel => exact ⟨_, rfl, by rw [HE.out]; exact O4.out, A4⟩
      case rest =>
        clear c2 c3 c4 c5 c6 c7
        obtain ⟨v12, rfl, R3, Q3⟩ := hcut
        obtain ⟨c2, c3, c4, c5, c6, c7⟩ := HC.out _ Q3.out
        have t3 := Q3.out.size
        go_upto_if 43 with fail
        go_cut [3] (fun s wx => ∃ v, s = v ∧ Hid (wx.ownsRow w2.heap.size 9 1 v ([x0] ++ o1 dm ++ o2 pa ++ o3 ag ++ o4 se).length (strCells ([x0] ++ o1 dm ++ o2 pa ++ o3 ag ++ o4 se))) ∧ Hid (Below w2.heap.size w2 wx))
        case first =>
          cases se with
          | false =>
            have HE : Hid (o4 false = []) := rfl
            go_wp2_with fail
            go_meet
            case rel => exact ⟨_, rfl, by rw [HE.out, List.append_nil]; exact R3.out, Q3⟩
          | true =>
            have HE : Hid (o4 true = [(⟨#[83, 101, 99, 117, 114, 101]⟩ : ByteArray)]) := rfl
            go_wp2_with (at_builtin; go_must (refine wpList_append_own _ rfl _ _ 52 rfl w2.heap.size 9 i0 (.string ⟨#[]⟩) 1 16 Tryd.underlying52 hi hy0 hy1 hy2 rfl (by decide) _ _ _ rfl (R3.out.alloc _) ⟨wc.heap.size, 0, none⟩ 1 1 [.string ((⟨#[83, 101, 99, 117, 114, 101]⟩ : ByteArray))] rfl rfl (cell_one_new _ _ _) (by intro u hu; simp at hu; subst hu; rfl) (by unfold maxLen; simp only [List.length_append, List.length_singleton]; omega) (by simp only [List.length_append, List.length_singleton]; omega) (by simp; omega) ?_))
            intro v4 w4 ho hg _
            rw [strCells_snoc] at ho
            have O4 : Hid (w4.ownsRow w2.heap.size 9 1 v4 ([x0] ++ o1 dm ++ o2 pa ++ o3 ag ++ [(⟨#[83, 101, 99, 117, 114, 101]⟩ : ByteArray)]).length (strCells ([x0] ++ o1 dm ++ o2 pa ++ o3 ag ++ [(⟨#[83, 101, 99, 117, 114, 101]⟩ : ByteArray)]))) := own_cast ho (by simp only [List.length_append, List.length_cons, List.length_nil]; omega) (by simp)
            have A4 : Hid (Below w2.heap.size w2 w4) := (Q3.out.alloc Q3.out.size _).grown hg (by have := Q3.out.size; simp; omega) (fun j hj => (R3.out.lt j hj).1)
            clear ho hg
            go_wp2_with fail
            go_meet
            case rel => exact ⟨_, rfl, by rw [HE.out]; exact O4.out, A4⟩
        case rest =>
          clear c2 c3 c4 c5 c6 c7
          obtain ⟨v13, rfl, R4, Q4⟩ := hcut
          obtain ⟨c2, c3, c4, c5, c6, c7⟩ := HC.out _ Q4.out
          have t4 := Q4.out.size
          by_cases hm1 : mo = 1
          · have HE : Hid (o5 mo = [(⟨#[83, 97, 109, 101, 83, 105, 116, 101, 61, 83, 116, 114, 105, 99, 116]⟩ : ByteArray)]) := by show _ = _; rw [E5.out, if_pos hm1]
            have q1 : (mo == 1) = true := by rw [beq_iff_eq]; exact hm1
            go_wp2_with (at_builtin; go_must (refine wpList_append_own _ rfl _ _ 52 rfl w2.heap.size 9 i0 (.string ⟨#[]⟩) 1 16 Tryd.underlying52 hi hy0 hy1 hy2 rfl (by decide) _ _ _ rfl (R4.out.alloc _) ⟨wc.heap.size, 0, none⟩ 1 1 [.string ((⟨#[83, 97, 109, 101, 83, 105, 116, 101, 61, 83, 116, 114, 105, 99, 116]⟩ : ByteArray))] rfl rfl (cell_one_new _ _ _) (by intro u hu; simp at hu; subst hu; rfl) (by unfold maxLen; simp only [List.length_append, List.length_singleton]; omega) (by simp only [List.length_append, List.length_singleton]; omega) (by simp; omega) ?_))
            intro v6 w6 ho hg _
            rw [strCells_snoc] at ho
            have O6 : Hid (w6.ownsRow w2.heap.size 9 1 v6 ([x0] ++ o1 dm ++ o2 pa ++ o3 ag ++ o4 se ++ [(⟨#[83, 97, 109, 101, 83, 105, 116, 101, 61, 83, 116, 114, 105, 99, 116]⟩ : ByteArray)]).length (strCells ([x0] ++ o1 dm ++ o2 pa ++ o3 ag ++ o4 se ++ [(⟨#[83, 97, 109, 101, 83, 105, 116, 101, 61, 83, 116, 114, 105, 99, 116]⟩ : ByteArray)]))) := own_cast ho (by simp only [List.length_append, List.length_cons, List.length_nil]; omega) (by simp)
            have A6 : Hid (Below w2.heap.size w2 w6) := (Q4.out.alloc Q4.out.size _).grown hg (by have := Q4.out.size; simp; omega) (fun j hj => (R4.out.lt j hj).1)
            clear ho hg
            have t6 := A6.out.size
            obtain ⟨d2, d3, d4, d5, d6, d7⟩ := HC.out _ A6.out
            cases pt with
            | false =>
              have HD : Hid (joinB ([x0] ++ o1 dm ++ o2 pa ++ o3 ag ++ o4 se ++ [(⟨#[83, 97, 109, 101, 83, 105, 116, 101, 61, 83, 116, 114, 105, 99, 116]⟩ : ByteArray)]) semi = joinB ([x0] ++ o1 dm ++ o2 pa ++ o3 ag ++ o4 se ++ o5 mo ++ o6 false) semi) := by show _ = _; rw [show o6 false = [] from rfl, HE.out, List.append_nil]
              have HJ : Hid (Calls Tryd.prog 34 #[v6, .string ⟨#[59, 32]⟩] w6 fun e w' => e = .returned (.string R) ∧ Below w6.heap.size w6 w') := by
                have h := join_own ([x0] ++ o1 dm ++ o2 pa ++ o3 ag ++ o4 se ++ [(⟨#[83, 97, 109, 101, 83, 105, 116, 101, 61, 83, 116, 114, 105, 99, 116]⟩ : ByteArray)]) _ _ _ semi _ O6.out (by simp only [List.length_append, List.length_singleton]; omega) (by rw [HD.out]; exact Nat.le_trans HZ.out (by decide))
                rw [HD.out, ← HX.out] at h
                exact h
              go_wp2_with (go_at_call 34; refine HJ.out.mono ?_; rintro e w9 ⟨rfl, hb9⟩)
              go_ret
              exact ⟨rfl, B2.out.trans ((A6.out.mono B2.out.size).trans (hb9.mono (Nat.le_trans B2.out.size A6.out.size)))⟩
            | true =>
              go_wp2_with (at_builtin; go_must (refine wpList_append_own _ rfl _ _ 52 rfl w2.heap.size 9 i0 (.string ⟨#[]⟩) 1 16 Tryd.underlying52 hi hy0 hy1 hy2 rfl (by decide) _ _ _ rfl (O6.out.alloc _) ⟨w6.heap.size, 0, none⟩ 1 1 [.string ((⟨#[80, 97, 114, 116, 105, 116, 105, 111, 110, 101, 100]⟩ : ByteArray))] rfl rfl (cell_one_new _ _ _) (by intro u hu; simp at hu; subst hu; rfl) (by unfold maxLen; simp only [List.length_append, List.length_singleton]; omega) (by simp only [List.length_append, List.length_singleton]; omega) (by simp; omega) ?_))
              intro v8 w8 ho hg _
              rw [strCells_snoc] at ho
              have O8 : Hid (w8.ownsRow w2.heap.size 9 1 v8 ([x0] ++ o1 dm ++ o2 pa ++ o3 ag ++ o4 se ++ [(⟨#[83, 97, 109, 101, 83, 105, 116, 101, 61, 83, 116, 114, 105, 99, 116]⟩ : ByteArray)] ++ [(⟨#[80, 97, 114, 116, 105, 116, 105, 111, 110, 101, 100]⟩ : ByteArray)]).length (strCells ([x0] ++ o1 dm ++ o2 pa ++ o3 ag ++ o4 se ++ [(⟨#[83, 97, 109, 101, 83, 105, 116, 101, 61, 83, 116, 114, 105, 99, 116]⟩ : ByteArray)] ++ [(⟨#[80, 97, 114, 116, 105, 116, 105, 111, 110, 101, 100]⟩ : ByteArray)]))) := own_cast ho (by simp only [List.length_append, List.length_cons, List.length_nil]; omega) (by simp)
              have A8 : Hid (Below w2.heap.size w2 w8) := (A6.out.alloc A6.out.size _).grown hg (by have := A6.out.size; simp; omega) (fun j hj => (O6.out.lt j hj).1)
              clear ho hg
              have HD : Hid (joinB ([x0] ++ o1 dm ++ o2 pa ++ o3 ag ++ o4 se ++ [(⟨#[83, 97, 109, 101, 83, 105, 116, 101, 61, 83, 116, 114, 105, 99, 116]⟩ : ByteArray)] ++ [(⟨#[80, 97, 114, 116, 105, 116, 105, 111, 110, 101, 100]⟩ : ByteArray)]) semi = joinB ([x0] ++ o1 dm ++ o2 pa ++ o3 ag ++ o4 se ++ o5 mo ++ o6 true) semi) := by show _ = _; rw [show o6 true = [(⟨#[80, 97, 114, 116, 105, 116, 105, 111, 110, 101, 100]⟩ : ByteArray)] from rfl, HE.out]
              have HJ : Hid (Calls Tryd.prog 34 #[v8, .string ⟨#[59, 32]⟩] w8 fun e w' => e = .returned (.string R) ∧ Below w8.heap.size w8 w') := by
                have h := join_own ([x0] ++ o1 dm ++ o2 pa ++ o3 ag ++ o4 se ++ [(⟨#[83, 97, 109, 101, 83, 105, 116, 101, 61, 83, 116, 114, 105, 99, 116]⟩ : ByteArray)] ++ [(⟨#[80, 97, 114, 116, 105, 116, 105, 111, 110, 101, 100]⟩ : ByteArray)]) _ _ _ semi _ O8.out (by simp only [List.length_append, List.length_singleton]; omega) (by rw [HD.out]; exact Nat.le_trans HZ.out (by decide))
                rw [HD.out, ← HX.out] at h
                exact h
              go_wp2_with (go_at_call 34; refine HJ.out.mono ?_; rintro e w9 ⟨rfl, hb9⟩)
              go_ret
              exact ⟨rfl, B2.out.trans ((A8.out.mono B2.out.size).trans (hb9.mono (Nat.le_trans B2.out.size A8.out.size)))⟩
          have q1 : (mo == 1) = false := by rw [beq_eq_false_iff_ne]; exact hm1
          by_cases hm2 : mo = 2
          · have HE : Hid (o5 mo = [(⟨#[83, 97, 109, 101, 83, 105, 116, 101, 61, 78, 111, 110, 101]⟩ : ByteArray)]) := by show _ = _; rw [E5.out, if_neg hm1, if_pos hm2]
            have q2 : (mo == 2) = true := by rw [beq_iff_eq]; exact hm2
            go_wp2_with (at_builtin; go_must (refine wpList_append_own _ rfl _ _ 52 rfl w2.heap.size 9 i0 (.string ⟨#[]⟩) 1 16 Tryd.underlying52 hi hy0 hy1 hy2 rfl (by decide) _ _ _ rfl (R4.out.alloc _) ⟨wc.heap.size, 0, none⟩ 1 1 [.string ((⟨#[83, 97, 109, 101, 83, 105, 116, 101, 61, 78, 111, 110, 101]⟩ : ByteArray))] rfl rfl (cell_one_new _ _ _) (by intro u hu; simp at hu; subst hu; rfl) (by unfold maxLen; simp only [List.length_append, List.length_singleton]; omega) (by simp only [List.length_append, List.length_singleton]; omega) (by simp; omega) ?_))
            intro v6 w6 ho hg _
            rw [strCells_snoc] at ho
            have O6 : Hid (w6.ownsRow w2.heap.size 9 1 v6 ([x0] ++ o1 dm ++ o2 pa ++ o3 ag ++ o4 se ++ [(⟨#[83, 97, 109, 101, 83, 105, 116, 101, 61, 78, 111, 110, 101]⟩ : ByteArray)]).length (strCells ([x0] ++ o1 dm ++ o2 pa ++ o3 ag ++ o4 se ++ [(⟨#[83, 97, 109, 101, 83, 105, 116, 101, 61, 78, 111, 110, 101]⟩ : ByteArray)]))) := own_cast ho (by simp only [List.length_append, List.length_cons, List.length_nil]; omega) (by simp)
            have A6 : Hid (Below w2.heap.size w2 w6) := (Q4.out.alloc Q4.out.size _).grown hg (by have := Q4.out.size; simp; omega) (fun j hj => (R4.out.lt j hj).1)
            clear ho hg
            have t6 := A6.out.size
            obtain ⟨d2, d3, d4, d5, d6, d7⟩ := HC.out _ A6.out
            cases pt with
            | false =>
              have HD : Hid (joinB ([x0] ++ o1 dm ++ o2 pa ++ o3 ag ++ o4 se ++ [(⟨#[83, 97, 109, 101, 83, 105, 116, 101, 61, 78, 111, 110, 101]⟩ : ByteArray)]) semi = joinB ([x0] ++ o1 dm ++ o2 pa ++ o3 ag ++ o4 se ++ o5 mo ++ o6 false) semi) := by show _ = _; rw [show o6 false = [] from rfl, HE.out, List.append_nil]
              have HJ : Hid (Calls Tryd.prog 34 #[v6, .string ⟨#[59, 32]⟩] w6 fun e w' => e = .returned (.string R) ∧ Below w6.heap.size w6 w') := by
                have h := join_own ([x0] ++ o1 dm ++ o2 pa ++ o3 ag ++ o4 se ++ [(⟨#[83, 97, 109, 101, 83, 105, 116, 101, 61, 78, 111, 110, 101]⟩ : ByteArray)]) _ _ _ semi _ O6.out (by simp only [List.length_append, List.length_singleton]; omega) (by rw [HD.out]; exact Nat.le_trans HZ.out (by decide))
                rw [HD.out, ← HX.out] at h
                exact h
              go_wp2_with (go_at_call 34; refine HJ.out.mono ?_; rintro e w9 ⟨rfl, hb9⟩)
              go_ret
              exact ⟨rfl, B2.out.trans ((A6.out.mono B2.out.size).trans (hb9.mono (Nat.le_trans B2.out.size A6.out.size)))⟩
            | true =>
              go_wp2_with (at_builtin; go_must (refine wpList_append_own _ rfl _ _ 52 rfl w2.heap.size 9 i0 (.string ⟨#[]⟩) 1 16 Tryd.underlying52 hi hy0 hy1 hy2 rfl (by decide) _ _ _ rfl (O6.out.alloc _) ⟨w6.heap.size, 0, none⟩ 1 1 [.string ((⟨#[80, 97, 114, 116, 105, 116, 105, 111, 110, 101, 100]⟩ : ByteArray))] rfl rfl (cell_one_new _ _ _) (by intro u hu; simp at hu; subst hu; rfl) (by unfold maxLen; simp only [List.length_append, List.length_singleton]; omega) (by simp only [List.length_append, List.length_singleton]; omega) (by simp; omega) ?_))
              intro v8 w8 ho hg _
              rw [strCells_snoc] at ho
              have O8 : Hid (w8.ownsRow w2.heap.size 9 1 v8 ([x0] ++ o1 dm ++ o2 pa ++ o3 ag ++ o4 se ++ [(⟨#[83, 97, 109, 101, 83, 105, 116, 101, 61, 78, 111, 110, 101]⟩ : ByteArray)] ++ [(⟨#[80, 97, 114, 116, 105, 116, 105, 111, 110, 101, 100]⟩ : ByteArray)]).length (strCells ([x0] ++ o1 dm ++ o2 pa ++ o3 ag ++ o4 se ++ [(⟨#[83, 97, 109, 101, 83, 105, 116, 101, 61, 78, 111, 110, 101]⟩ : ByteArray)] ++ [(⟨#[80, 97, 114, 116, 105, 116, 105, 111, 110, 101, 100]⟩ : ByteArray)]))) := own_cast ho (by simp only [List.length_append, List.length_cons, List.length_nil]; omega) (by simp)
              have A8 : Hid (Below w2.heap.size w2 w8) := (A6.out.alloc A6.out.size _).grown hg (by have := A6.out.size; simp; omega) (fun j hj => (O6.out.lt j hj).1)
              clear ho hg
              have HD : Hid (joinB ([x0] ++ o1 dm ++ o2 pa ++ o3 ag ++ o4 se ++ [(⟨#[83, 97, 109, 101, 83, 105, 116, 101, 61, 78, 111, 110, 101]⟩ : ByteArray)] ++ [(⟨#[80, 97, 114, 116, 105, 116, 105, 111, 110, 101, 100]⟩ : ByteArray)]) semi = joinB ([x0] ++ o1 dm ++ o2 pa ++ o3 ag ++ o4 se ++ o5 mo ++ o6 true) semi) := by show _ = _; rw [show o6 true = [(⟨#[80, 97, 114, 116, 105, 116, 105, 111, 110, 101, 100]⟩ : ByteArray)] from rfl, HE.out]
              have HJ : Hid (Calls Tryd.prog 34 #[v8, .string ⟨#[59, 32]⟩] w8 fun e w' => e = .returned (.string R) ∧ Below w8.heap.size w8 w') := by
                have h := join_own ([x0] ++ o1 dm ++ o2 pa ++ o3 ag ++ o4 se ++ [(⟨#[83, 97, 109, 101, 83, 105, 116, 101, 61, 78, 111, 110, 101]⟩ : ByteArray)] ++ [(⟨#[80, 97, 114, 116, 105, 116, 105, 111, 110, 101, 100]⟩ : ByteArray)]) _ _ _ semi _ O8.out (by simp only [List.length_append, List.length_singleton]; omega) (by rw [HD.out]; exact Nat.le_trans HZ.out (by decide))
                rw [HD.out, ← HX.out] at h
                exact h
              go_wp2_with (go_at_call 34; refine HJ.out.mono ?_; rintro e w9 ⟨rfl, hb9⟩)
              go_ret
              exact ⟨rfl, B2.out.trans ((A8.out.mono B2.out.size).trans (hb9.mono (Nat.le_trans B2.out.size A8.out.size)))⟩
          have q2 : (mo == 2) = false := by rw [beq_eq_false_iff_ne]; exact hm2
          have HE : Hid (o5 mo = []) := by show _ = _; rw [E5.out, if_neg hm1, if_neg hm2]
          cases pt with
          | false =>
            have HD : Hid (joinB ([x0] ++ o1 dm ++ o2 pa ++ o3 ag ++ o4 se) semi = joinB ([x0] ++ o1 dm ++ o2 pa ++ o3 ag ++ o4 se ++ o5 mo ++ o6 false) semi) := by show _ = _; rw [show o6 false = [] from rfl, HE.out, List.append_nil, List.append_nil]
            have HJ : Hid (Calls Tryd.prog 34 #[u3, .string ⟨#[59, 32]⟩] wc fun e w' => e = .returned (.string R) ∧ Below wc.heap.size wc w') := by
              have h := join_own ([x0] ++ o1 dm ++ o2 pa ++ o3 ag ++ o4 se) _ _ _ semi _ R4.out (by simp only [List.length_append, List.length_singleton]; omega) (by rw [HD.out]; exact Nat.le_trans HZ.out (by decide))
              rw [HD.out, ← HX.out] at h
              exact h
            go_wp2_with (go_at_call 34; refine HJ.out.mono ?_; rintro e w9 ⟨rfl, hb9⟩)
            go_ret
            exact ⟨rfl, B2.out.trans ((Q4.out.mono B2.out.size).trans (hb9.mono (Nat.le_trans B2.out.size Q4.out.size)))⟩
          | true =>
            go_wp2_with (at_builtin; go_must (refine wpList_append_own _ rfl _ _ 52 rfl w2.heap.size 9 i0 (.string ⟨#[]⟩) 1 16 Tryd.underlying52 hi hy0 hy1 hy2 rfl (by decide) _ _ _ rfl (R4.out.alloc _) ⟨wc.heap.size, 0, none⟩ 1 1 [.string ((⟨#[80, 97, 114, 116, 105, 116, 105, 111, 110, 101, 100]⟩ : ByteArray))] rfl rfl (cell_one_new _ _ _) (by intro u hu; simp at hu; subst hu; rfl) (by unfold maxLen; simp only [List.length_append, List.length_singleton]; omega) (by simp only [List.length_append, List.length_singleton]; omega) (by simp; omega) ?_))
            intro v8 w8 ho hg _
            rw [strCells_snoc] at ho
            have O8 : Hid (w8.ownsRow w2.heap.size 9 1 v8 ([x0] ++ o1 dm ++ o2 pa ++ o3 ag ++ o4 se ++ [(⟨#[80, 97, 114, 116, 105, 116, 105, 111, 110, 101, 100]⟩ : ByteArray)]).length (strCells ([x0] ++ o1 dm ++ o2 pa ++ o3 ag ++ o4 se ++ [(⟨#[80, 97, 114, 116, 105, 116, 105, 111, 110, 101, 100]⟩ : ByteArray)]))) := own_cast ho (by simp only [List.length_append, List.length_cons, List.length_nil]; omega) (by simp)
            have A8 : Hid (Below w2.heap.size w2 w8) := (Q4.out.alloc Q4.out.size _).grown hg (by have := Q4.out.size; simp; omega) (fun j hj => (R4.out.lt j hj).1)
            clear ho hg
            have HD : Hid (joinB ([x0] ++ o1 dm ++ o2 pa ++ o3 ag ++ o4 se ++ [(⟨#[80, 97, 114, 116, 105, 116, 105, 111, 110, 101, 100]⟩ : ByteArray)]) semi = joinB ([x0] ++ o1 dm ++ o2 pa ++ o3 ag ++ o4 se ++ o5 mo ++ o6 true) semi) := by show _ = _; rw [show o6 true = [(⟨#[80, 97, 114, 116, 105, 116, 105, 111, 110, 101, 100]⟩ : ByteArray)] from rfl, HE.out, List.append_nil]
            have HJ : Hid (Calls Tryd.prog 34 #[v8, .string ⟨#[59, 32]⟩] w8 fun e w' => e = .returned (.string R) ∧ Below w8.heap.size w8 w') := by
              have h := join_own ([x0] ++ o1 dm ++ o2 pa ++ o3 ag ++ o4 se ++ [(⟨#[80, 97, 114, 116, 105, 116, 105, 111, 110, 101, 100]⟩ : ByteArray)]) _ _ _ semi _ O8.out (by simp only [List.length_append, List.length_singleton]; omega) (by rw [HD.out]; exact Nat.le_trans HZ.out (by decide))
              rw [HD.out, ← HX.out] at h
              exact h
            go_wp2_with (go_at_call 34; refine HJ.out.mono ?_; rintro e w9 ⟨rfl, hb9⟩)
            go_ret
            exact ⟨rfl, B2.out.trans ((A8.out.mono B2.out.size).trans (hb9.mono (Nat.le_trans B2.out.size A8.out.size)))⟩
end Go.Proofs.YthcpmbolnmlohaaDoor

/- The walk of together: two texts put together in new memory. -/
namespace Go.Proofs.YthcpmbolnmlohaaDoor
open Go.RowKit


set_option maxRecDepth 10000 in
set_option maxHeartbeats 400000 in
theorem together_full (x y : ByteArray) (w : World) (hz : x.size + y.size ≤ 1000000) (hy : ¬ y = ByteArray.empty) :
    Calls Tryd.prog 86 #[.string x, .string y] w fun e w' => e = .returned (.string (x ++ y)) ∧ Below w.heap.size w w' := by
  obtain ⟨w1, Z, hmk, HG1, hZ, hs1, hb1⟩ := make_row (P := Tryd.prog) w 22 5 _ Tryd.underlying22 infoU8 ((x.size : Int) + (y.size : Int)) (x.size + y.size) (by omega) (by omega)
  go_enter Tryd.func86, Tryd.ntmps86
  go_wp2_with fail
  obtain ⟨w2, hc2, HG2, hs2, hB2⟩ := copy_text (P := Tryd.prog) w1 22 9 3 5 Tryd.underlying22 sizeU8 (some ⟨w.heap.size, 0, none⟩) (x.size + y.size) (x.size + y.size) x (by omega) w.heap.size 0 Z _ HG1 (fun _ => rfl) (by omega)
  have hb2 := hB2 _ _ hb1 (Nat.le_refl _)
  rw [hc2]
  clear hc2 hmk hB2 HG1 hb1
  go_wp2_with fail
  have hl2 : (splice Z 0 (Lib.byteCells x.data.toList)).length = x.size + y.size := by rw [length_splice _ _ _ (by rw [len_cells]; omega), hZ]
  obtain ⟨w3, hc3, HG3, hs3, hB3⟩ := copy_text (P := Tryd.prog) w2 22 9 3 5 Tryd.underlying22 sizeU8 (some ⟨w.heap.size, x.size, none⟩) y.size y.size y (by omega) w.heap.size x.size _ _ HG2 (fun _ => rfl) (by omega)
  have hb3 := hB3 _ _ hb2 (Nat.le_refl _)
  have HG4 : RowAt w3 w.heap.size 5 (Lib.byteCells (x.data.toList ++ y.data.toList) ++ []) := by
    have e := splice_two Z (Lib.byteCells x.data.toList) (Lib.byteCells y.data.toList) (by rw [len_cells, len_cells]; exact hZ)
    rw [len_cells] at e
    rw [e, ← byteCells_append, ← List.append_nil (Lib.byteCells _)] at HG3
    exact HG3
  rw [hc3]
  clear hc3 hB3 HG2 HG3 hb2 hl2
  go_wp2_with fail
  rw [text_of_row (P := Tryd.prog) w3 22 9 5 Tryd.underlying22 Tryd.underlying5 Tryd.underlying9 w.heap.size (x.size + y.size) (x.size + y.size) 5 _ _ HG4 (by rw [List.length_append, ← Lib.size_eq, ← Lib.size_eq])]
  go_wp2
  go_ret
  exact ⟨ret_text (text_append x y), hb3⟩

set_option maxRecDepth 10000 in
set_option maxHeartbeats 400000 in
theorem together_empty (x : ByteArray) (w : World) (hz : x.size ≤ 1000000) :
    Calls Tryd.prog 86 #[.string x, .string ByteArray.empty] w fun e w' => e = .returned (.string x) ∧ Below w.heap.size w w' := by
  obtain ⟨w1, Z, hmk, HG1, hZ, hs1, hb1⟩ := make_row (P := Tryd.prog) w 22 5 _ Tryd.underlying22 infoU8 (x.size : Int) x.size (by omega) (by omega)
  go_enter Tryd.func86, Tryd.ntmps86
  go_wp2_with fail
  obtain ⟨w2, hc2, HG2, hs2, hB2⟩ := copy_text (P := Tryd.prog) w1 22 9 3 5 Tryd.underlying22 sizeU8 (some ⟨w.heap.size, 0, none⟩) x.size x.size x (by omega) w.heap.size 0 Z _ HG1 (fun _ => rfl) (by omega)
  have hb2 := hB2 _ _ hb1 (Nat.le_refl _)
  rw [hc2]
  clear hc2 hmk hB2 HG1 hb1
  go_wp2_with fail
  have HG4 : RowAt w2 w.heap.size 5 (Lib.byteCells x.data.toList ++ []) := by
    have e : splice Z 0 (Lib.byteCells x.data.toList) = Lib.byteCells x.data.toList ++ [] := by
      unfold splice
      rw [List.drop_eq_nil_of_le (by rw [len_cells]; omega)]
      simp
    rw [e] at HG2
    exact HG2
  rw [Lib.run_copy_empty_string (P := Tryd.prog) w2 22 9 3 5 (some ⟨w.heap.size, 0, none⟩) 0 0 ByteArray.empty Tryd.underlying22 (by rw [Option.isSome_iff_exists]; exact ⟨1, sizeU8⟩) rfl]
  go_wp2_with fail
  rw [text_of_row (P := Tryd.prog) w2 22 9 5 Tryd.underlying22 Tryd.underlying5 Tryd.underlying9 w.heap.size x.size x.size 5 _ _ HG4 (by rw [← Lib.size_eq])]
  go_wp2
  go_ret
  exact ⟨rfl, hb2⟩
theorem together_any (x y : ByteArray) (w : World) (hz : x.size + y.size ≤ 1000000) :
    Calls Tryd.prog 86 #[.string x, .string y] w fun e w' => e = .returned (.string (x ++ y)) ∧ Below w.heap.size w w' := by
  by_cases hy : y = ByteArray.empty
  · subst hy
    rw [ByteArray.append_empty]
    exact together_empty x w (by omega)
  · exact together_full x y w hz hy

end Go.Proofs.YthcpmbolnmlohaaDoor

/- The walks of the program's pairParts, withValue, withAttribute. -/
namespace Go.Proofs.YthcpmbolnmlohaaDoor
open Go.RowKit

theorem below_drew {w w' : World} (h : ∃ n, w' = w.drewN n) : Below w.heap.size w w' := by
  obtain ⟨n, rfl⟩ := h
  exact ⟨rfl, rfl, rfl, Nat.le_refl _, fun _ _ => rfl⟩
theorem cut_call (s : ByteArray) (w : World) (hG : MaxI w) (hs : s.size < 4294967281) :
    Calls Tryd.prog 85 #[.string s, .string ⟨#[61]⟩] w fun e w' => (∃ b, e = .returned (.tuple #[.string (pairP s).1, .string (pairP s).2, .bool b])) ∧ Below w.heap.size w w' := by
  obtain ⟨m, hm⟩ := hG
  have h := Any.strings_Cut Tryd.lays145 s equ m w hs hm
  rw [(pair_lib s).1, (pair_lib s).2] at h
  exact h.mono fun e w' ⟨h1, h2⟩ => ⟨⟨_, h1⟩, below_drew h2⟩
set_option maxRecDepth 10000 in
set_option maxHeartbeats 4000000 in
theorem pairParts_any (t : ByteArray) (w : World) (hG : MaxI w) (ht : t.size ≤ 8000) :
    Calls Tryd.prog 59 #[.string t] w fun e w' => e = .returned (pairV (pairP t).1 (pairP t).2) ∧ Below w.heap.size w w' := by
  have hz := pairP_size t
  have KC : Hid (∀ W, Below w.heap.size w W → Calls Tryd.prog 85 #[.string t, .string ⟨#[61]⟩] W fun e w' => (∃ b, e = .returned (.tuple #[.string (pairP t).1, .string (pairP t).2, .bool b])) ∧ Below W.heap.size W w') := fun W hb => cut_call t W (hG.on hb) (by omega)
  have K1 : Hid (∀ W, Calls Tryd.prog 86 #[.string (pairP t).1, .string ⟨#[]⟩] W fun e w' => e = .returned (.string (pairP t).1) ∧ Below W.heap.size W w') := fun W => together_empty _ W (by omega)
  have K2 : Hid (∀ W, Calls Tryd.prog 86 #[.string (pairP t).2, .string ⟨#[]⟩] W fun e w' => e = .returned (.string (pairP t).2) ∧ Below W.heap.size W w') := fun W => together_empty _ W (by omega)
  clear hz hG
  generalize pairP t = pp at *
  obtain ⟨n1, v1⟩ := pp
  have KC' : Hid (∀ W, Below w.heap.size w W → Calls Tryd.prog 85 #[.string t, .string ⟨#[61]⟩] W fun e w' => (∃ b, e = .returned (.tuple #[.string n1, .string v1, .bool b])) ∧ Below W.heap.size W w') := KC
  have K1' : Hid (∀ W, Calls Tryd.prog 86 #[.string n1, .string ⟨#[]⟩] W fun e w' => e = .returned (.string n1) ∧ Below W.heap.size W w') := K1
  have K2' : Hid (∀ W, Calls Tryd.prog 86 #[.string v1, .string ⟨#[]⟩] W fun e w' => e = .returned (.string v1) ∧ Below W.heap.size W w') := K2
  clear KC K1 K2
  show Calls _ _ _ _ fun e w' => e = .returned (.agg #[.string n1, .string v1]) ∧ _
  go_enter Tryd.func59, Tryd.ntmps59
  go_wp2_with fail
  refine (KC'.out _ ((Below.refl _ _).alloc (Nat.le_refl _) _)).mono ?_
  rintro e w1 ⟨⟨b, rfl⟩, hb1⟩
  go_wp2_with fail
  refine (K1'.out _).mono ?_
  rintro e w2 ⟨rfl, hb2⟩
  go_wp2_with fail
  refine (K2'.out _).mono ?_
  rintro e w3 ⟨rfl, hb3⟩
  have hz1 : w.heap.size < w1.heap.size := by have := hb1.size; simp at this; omega
  have B3 : Below (w.heap.size + 1) (w.alloc (.cells #[.string ⟨#[]⟩, .string ⟨#[]⟩] 64)) w3 := by
    have e : (w.alloc (.cells #[.string ⟨#[]⟩, .string ⟨#[]⟩] 64)).heap.size = w.heap.size + 1 := by simp
    rw [e] at hb1
    exact hb1.trans ((hb2.mono hz1).trans (hb3.mono (Nat.le_trans hz1 hb2.size)))
  have g0 : w3.cell? ⟨w.heap.size, 0, none⟩ = some (.string ⟨#[]⟩) := by rw [B3.cell (p := ⟨w.heap.size, 0, none⟩) (Nat.lt_succ_self _)]; simp
  have g1 : w3.cell? ⟨w.heap.size, 1, none⟩ = some (.string ⟨#[]⟩) := by rw [B3.cell (p := ⟨w.heap.size, 1, none⟩) (Nat.lt_succ_self _)]; simp
  have f0 : ∀ o, w3.frozen? ⟨w.heap.size, o, none⟩ = false := fun o => by rw [B3.frozen (p := ⟨w.heap.size, o, none⟩) (Nat.lt_succ_self _)]; simp
  have HB : Hid (Below w.heap.size w w3) := ((Below.refl _ _).alloc (Nat.le_refl _) _).trans (B3.mono (Nat.le_succ _))
  clear hb1 hb2 hb3 B3
  go_wp2
  exact bodyPost_ret (v := .agg #[.string n1, .string v1]) (by simp [results, Tryd.results59, go_sem, g0, g1]) rfl ⟨rfl, (HB.out.setCell (Nat.le_refl _) _).setCell (Nat.le_refl _) _⟩
/-- the library's two errors hold some value -/
def ErrI (w : World) : Prop := (∃ u v, w.cell? ⟨7, 0, none⟩ = some (.iface u v)) ∧ (∃ u v, w.cell? ⟨8, 0, none⟩ = some (.iface u v))
theorem ErrI.on {w w' : World} (h : ErrI w) (hb : Below w.heap.size w w') : ErrI w' := by
  obtain ⟨⟨u, v, h0⟩, ⟨u', v', h1⟩⟩ := h
  exact ⟨⟨u, v, by rw [(bcell hb).1 _ _ (World.block_lt_of_cell? w ⟨7, 0, none⟩ h0)]; exact h0⟩, ⟨u', v', by rw [(bcell hb).1 _ _ (World.block_lt_of_cell? w ⟨8, 0, none⟩ h1)]; exact h1⟩⟩
theorem parse_call (s : ByteArray) (w : World) (hE : ErrI w) (hs : s.size ≤ 1048576) :
    Calls Tryd.prog 121 #[.string s, .int .i64 10, .int .i64 64] w fun e w' => (∃ v, e = .returned (.tuple #[.int .i64 (parseI s), v])) ∧ Below w.heap.size w w' := by
  obtain ⟨⟨u, v, h0⟩, ⟨u', v', h1⟩⟩ := hE
  cases hp : Lib.parseIntB 64 s.data.toList with
  | ok n =>
    have e : parseI s = n := by unfold parseI; rw [hp]
    rw [e]
    refine (Any.strconv_ParseInt_10_at64_ok Tryd.lays174 s (by omega) n hp w).mono ?_
    rintro e w' ⟨rfl, rfl | ⟨t, rfl⟩⟩
    · exact ⟨⟨_, rfl⟩, Below.refl _ _⟩
    · exact ⟨⟨_, rfl⟩, Lib.bytesWorld_below _ _ _⟩
  | «syntax» =>
    have e : parseI s = 0 := by unfold parseI; rw [hp]
    rw [e]
    refine (Any.strconv_ParseInt_10_at64_syntax Tryd.lays174 s (by omega) hp _ w h0 (.inr ⟨_, _, rfl⟩)).mono ?_
    rintro e w' ⟨N, rfl, _, _, hb⟩
    exact ⟨⟨_, rfl⟩, hb⟩
  | range =>
    have e : parseI s = Lib.intSat 64 s.data.toList := by unfold parseI; rw [hp]
    rw [e]
    refine (Any.strconv_ParseInt_10_at64_range Tryd.lays174 s (by omega) hp _ w h1 (.inr ⟨_, _, rfl⟩)).mono ?_
    rintro e w' ⟨N, rfl, _, _, hb⟩
    exact ⟨⟨_, rfl⟩, hb⟩
set_option maxRecDepth 10000 in
set_option maxHeartbeats 16000000 in
theorem withValue_any (c : SC) (x : ByteArray) (w : World) (hG : MaxI w) (hE : ErrI w) (hx : x.size ≤ 8000) :
    Calls Tryd.prog 104 #[scV c, .string x] w fun e w' => e = .returned (scV (iVal c x)) ∧ Below w.heap.size w w' := by
  have hz := pairP_size x
  have HI : Hid (iVal c x = if ((pairP x).1.toList == tDomain) = true then { c with dm := (pairP x).2 } else if ((pairP x).1.toList == tPath) = true then { c with pa := (pairP x).2 } else if ((pairP x).1.toList == tAge) = true then { c with ag := parseI (pairP x).2 } else c) := rfl
  have KC : Hid (∀ W, Below w.heap.size w W → Calls Tryd.prog 85 #[.string x, .string ⟨#[61]⟩] W fun e w' => (∃ b, e = .returned (.tuple #[.string (pairP x).1, .string (pairP x).2, .bool b])) ∧ Below W.heap.size W w') := fun W hb => cut_call x W (hG.on hb) (by omega)
  have K2 : Hid (∀ W, Calls Tryd.prog 86 #[.string (pairP x).2, .string ⟨#[]⟩] W fun e w' => e = .returned (.string (pairP x).2) ∧ Below W.heap.size W w') := fun W => together_empty _ W (by omega)
  have K3 : Hid (∀ W, Below w.heap.size w W → Calls Tryd.prog 121 #[.string (pairP x).2, .int .i64 10, .int .i64 64] W fun e w' => (∃ v, e = .returned (.tuple #[.int .i64 (parseI (pairP x).2), v])) ∧ Below W.heap.size W w') := fun W hb => parse_call _ W (hE.on hb) (by omega)
  clear hz hG hE hx
  generalize iVal c x = R at *
  generalize pairP x = pp at *
  obtain ⟨n1, v1⟩ := pp
  generalize hpi : parseI (n1, v1).2 = nv at *
  clear hpi
  obtain ⟨na, va, dm, pa, ag, se, mo, pt⟩ := c
  have HR : Hid (R = if (n1.toList == tDomain) = true then ⟨na, va, v1, pa, ag, se, mo, pt⟩ else if (n1.toList == tPath) = true then ⟨na, va, dm, v1, ag, se, mo, pt⟩ else if (n1.toList == tAge) = true then ⟨na, va, dm, pa, nv, se, mo, pt⟩ else ⟨na, va, dm, pa, ag, se, mo, pt⟩) := HI
  have KC' : Hid (∀ W, Below w.heap.size w W → Calls Tryd.prog 85 #[.string x, .string ⟨#[61]⟩] W fun e w' => (∃ b, e = .returned (.tuple #[.string n1, .string v1, .bool b])) ∧ Below W.heap.size W w') := KC
  have K2' : Hid (∀ W, Calls Tryd.prog 86 #[.string v1, .string ⟨#[]⟩] W fun e w' => e = .returned (.string v1) ∧ Below W.heap.size W w') := K2
  have K3' : Hid (∀ W, Below w.heap.size w W → Calls Tryd.prog 121 #[.string v1, .int .i64 10, .int .i64 64] W fun e w' => (∃ v, e = .returned (.tuple #[.int .i64 nv, v])) ∧ Below W.heap.size W w') := K3
  clear KC K2 K3 HI
  show Calls _ _ #[.agg #[.string na, .string va, .string dm, .string pa, .int .i64 ag, .bool se, .int .i64 mo, .bool pt], _] _ _
  have M0 : Hid (U8 ((w.alloc (.cells #[.string na, .string va, .string dm, .string pa, .int .i64 ag, .bool se, .int .i64 mo, .bool pt] 32)).alloc (.cells #[.string ⟨#[]⟩, .string ⟨#[]⟩, .string ⟨#[]⟩, .string ⟨#[]⟩, .int .i64 0, .bool false, .int .i64 0, .bool false] 32)) w.heap.size (.string na) (.string va) (.string dm) (.string pa) (.int .i64 ag) (.bool se) (.int .i64 mo) (.bool pt) ∧ U8 ((w.alloc (.cells #[.string na, .string va, .string dm, .string pa, .int .i64 ag, .bool se, .int .i64 mo, .bool pt] 32)).alloc (.cells #[.string ⟨#[]⟩, .string ⟨#[]⟩, .string ⟨#[]⟩, .string ⟨#[]⟩, .int .i64 0, .bool false, .int .i64 0, .bool false] 32)) (w.heap.size + 1) (.string ⟨#[]⟩) (.string ⟨#[]⟩) (.string ⟨#[]⟩) (.string ⟨#[]⟩) (.int .i64 0) (.bool false) (.int .i64 0) (.bool false) ∧ Below w.heap.size w ((w.alloc (.cells #[.string na, .string va, .string dm, .string pa, .int .i64 ag, .bool se, .int .i64 mo, .bool pt] 32)).alloc (.cells #[.string ⟨#[]⟩, .string ⟨#[]⟩, .string ⟨#[]⟩, .string ⟨#[]⟩, .int .i64 0, .bool false, .int .i64 0, .bool false] 32)) ∧ ((w.alloc (.cells #[.string na, .string va, .string dm, .string pa, .int .i64 ag, .bool se, .int .i64 mo, .bool pt] 32)).alloc (.cells #[.string ⟨#[]⟩, .string ⟨#[]⟩, .string ⟨#[]⟩, .string ⟨#[]⟩, .int .i64 0, .bool false, .int .i64 0, .bool false] 32)).heap.size = w.heap.size + 2) := by
    have a := U8.made w (.string na) (.string va) (.string dm) (.string pa) (.int .i64 ag) (.bool se) (.int .i64 mo) (.bool pt) 32
    have b := U8.made (w.alloc (.cells #[.string na, .string va, .string dm, .string pa, .int .i64 ag, .bool se, .int .i64 mo, .bool pt] 32)) (.string ⟨#[]⟩) (.string ⟨#[]⟩) (.string ⟨#[]⟩) (.string ⟨#[]⟩) (.int .i64 0) (.bool false) (.int .i64 0) (.bool false) 32
    have e : (w.alloc (.cells #[.string na, .string va, .string dm, .string pa, .int .i64 ag, .bool se, .int .i64 mo, .bool pt] 32)).heap.size = w.heap.size + 1 := by simp
    rw [e] at b
    exact ⟨a.below ((Below.refl _ _).alloc (Nat.le_refl _) _), b, ((Below.refl _ _).alloc (Nat.le_refl _) _).alloc (by simp) _, by simp⟩
  go_enter Tryd.func104, Tryd.ntmps104
  go_wp2_with fail
  refine (KC'.out _ M0.out.2.2.1).mono ?_
  rintro e w1 ⟨⟨b, rfl⟩, hb1⟩
  have M1 : Hid (U8 w1 w.heap.size (.string na) (.string va) (.string dm) (.string pa) (.int .i64 ag) (.bool se) (.int .i64 mo) (.bool pt) ∧ U8 w1 (w.heap.size + 1) (.string ⟨#[]⟩) (.string ⟨#[]⟩) (.string ⟨#[]⟩) (.string ⟨#[]⟩) (.int .i64 0) (.bool false) (.int .i64 0) (.bool false) ∧ Below w.heap.size w w1) := ⟨M0.out.1.below hb1, M0.out.2.1.below hb1, M0.out.2.2.1.trans (hb1.mono M0.out.2.2.1.size)⟩
  clear hb1 M0 KC'
  cases e0 : (n1.toList == tDomain) with
  | true =>
    have HX : Hid (R = ⟨na, va, v1, pa, ag, se, mo, pt⟩) := by show _ = _; rw [HR.out, if_pos e0]
    unfold tDomain at e0
    go_wp2_with fail
    refine (K2'.out _).mono ?_
    rintro e w2 ⟨rfl, hb2⟩
    have M2 : Hid (U8 w2 w.heap.size (.string na) (.string va) (.string dm) (.string pa) (.int .i64 ag) (.bool se) (.int .i64 mo) (.bool pt) ∧ U8 w2 (w.heap.size + 1) (.string ⟨#[]⟩) (.string ⟨#[]⟩) (.string ⟨#[]⟩) (.string ⟨#[]⟩) (.int .i64 0) (.bool false) (.int .i64 0) (.bool false) ∧ Below w.heap.size w w2) := ⟨M1.out.1.below hb2, M1.out.2.1.below hb2, M1.out.2.2.trans (hb2.mono M1.out.2.2.size)⟩
    clear hb2 M1
    have B2 : Hid (Below w.heap.size w w2) := M2.out.2.2
    obtain ⟨-, ⟨p0, p1, p2, p3, p4, p5, p6, p7⟩, fp⟩ := M2.out.1
    obtain ⟨-, ⟨r0, r1, r2, r3, r4, r5, r6, r7⟩, fr⟩ := M2.out.2.1
    clear M2
    go_wp2
    exact bodyPost_ret (v := .agg #[.string na, .string va, .string v1, .string pa, .int .i64 ag, .bool se, .int .i64 mo, .bool pt]) (by simp [results, Tryd.results104, go_sem, r0, r1, r2, r3, r4, r5, r6, r7]) rfl ⟨by rw [HX.out]; rfl, (Below.setCell (Below.setCell (Below.setCell (Below.setCell (Below.setCell (Below.setCell (Below.setCell (Below.setCell (Below.setCell B2.out (p := ⟨w.heap.size, 2, none⟩) (Nat.le_refl _) _) (p := ⟨w.heap.size + 1, 0, none⟩) (Nat.le_succ _) _) (p := ⟨w.heap.size + 1, 1, none⟩) (Nat.le_succ _) _) (p := ⟨w.heap.size + 1, 2, none⟩) (Nat.le_succ _) _) (p := ⟨w.heap.size + 1, 3, none⟩) (Nat.le_succ _) _) (p := ⟨w.heap.size + 1, 4, none⟩) (Nat.le_succ _) _) (p := ⟨w.heap.size + 1, 5, none⟩) (Nat.le_succ _) _) (p := ⟨w.heap.size + 1, 6, none⟩) (Nat.le_succ _) _) (p := ⟨w.heap.size + 1, 7, none⟩) (Nat.le_succ _) _)⟩
  | false =>
    cases e1 : (n1.toList == tPath) with
    | true =>
      have HX : Hid (R = ⟨na, va, dm, v1, ag, se, mo, pt⟩) := by show _ = _; rw [HR.out, if_neg (by rw [e0]; decide), if_pos e1]
      unfold tDomain at e0
      unfold tPath at e1
      go_wp2_with fail
      refine (K2'.out _).mono ?_
      rintro e w2 ⟨rfl, hb2⟩
      have M2 : Hid (U8 w2 w.heap.size (.string na) (.string va) (.string dm) (.string pa) (.int .i64 ag) (.bool se) (.int .i64 mo) (.bool pt) ∧ U8 w2 (w.heap.size + 1) (.string ⟨#[]⟩) (.string ⟨#[]⟩) (.string ⟨#[]⟩) (.string ⟨#[]⟩) (.int .i64 0) (.bool false) (.int .i64 0) (.bool false) ∧ Below w.heap.size w w2) := ⟨M1.out.1.below hb2, M1.out.2.1.below hb2, M1.out.2.2.trans (hb2.mono M1.out.2.2.size)⟩
      clear hb2 M1
      have B2 : Hid (Below w.heap.size w w2) := M2.out.2.2
      obtain ⟨-, ⟨p0, p1, p2, p3, p4, p5, p6, p7⟩, fp⟩ := M2.out.1
      obtain ⟨-, ⟨r0, r1, r2, r3, r4, r5, r6, r7⟩, fr⟩ := M2.out.2.1
      clear M2
      go_wp2
      exact bodyPost_ret (v := .agg #[.string na, .string va, .string dm, .string v1, .int .i64 ag, .bool se, .int .i64 mo, .bool pt]) (by simp [results, Tryd.results104, go_sem, r0, r1, r2, r3, r4, r5, r6, r7]) rfl ⟨by rw [HX.out]; rfl, (Below.setCell (Below.setCell (Below.setCell (Below.setCell (Below.setCell (Below.setCell (Below.setCell (Below.setCell (Below.setCell B2.out (p := ⟨w.heap.size, 3, none⟩) (Nat.le_refl _) _) (p := ⟨w.heap.size + 1, 0, none⟩) (Nat.le_succ _) _) (p := ⟨w.heap.size + 1, 1, none⟩) (Nat.le_succ _) _) (p := ⟨w.heap.size + 1, 2, none⟩) (Nat.le_succ _) _) (p := ⟨w.heap.size + 1, 3, none⟩) (Nat.le_succ _) _) (p := ⟨w.heap.size + 1, 4, none⟩) (Nat.le_succ _) _) (p := ⟨w.heap.size + 1, 5, none⟩) (Nat.le_succ _) _) (p := ⟨w.heap.size + 1, 6, none⟩) (Nat.le_succ _) _) (p := ⟨w.heap.size + 1, 7, none⟩) (Nat.le_succ _) _)⟩
    | false =>
      cases e2 : (n1.toList == tAge) with
      | true =>
        have HX : Hid (R = ⟨na, va, dm, pa, nv, se, mo, pt⟩) := by show _ = _; rw [HR.out, if_neg (by rw [e0]; decide), if_neg (by rw [e1]; decide), if_pos e2]
        unfold tDomain at e0
        unfold tPath at e1
        unfold tAge at e2
        go_wp2_with fail
        refine (K3'.out _ M1.out.2.2).mono ?_
        rintro e w2 ⟨⟨er, rfl⟩, hb2⟩
        have M2 : Hid (U8 w2 w.heap.size (.string na) (.string va) (.string dm) (.string pa) (.int .i64 ag) (.bool se) (.int .i64 mo) (.bool pt) ∧ U8 w2 (w.heap.size + 1) (.string ⟨#[]⟩) (.string ⟨#[]⟩) (.string ⟨#[]⟩) (.string ⟨#[]⟩) (.int .i64 0) (.bool false) (.int .i64 0) (.bool false) ∧ Below w.heap.size w w2) := ⟨M1.out.1.below hb2, M1.out.2.1.below hb2, M1.out.2.2.trans (hb2.mono M1.out.2.2.size)⟩
        clear hb2 M1
        have B2 : Hid (Below w.heap.size w w2) := M2.out.2.2
        obtain ⟨-, ⟨p0, p1, p2, p3, p4, p5, p6, p7⟩, fp⟩ := M2.out.1
        obtain ⟨-, ⟨r0, r1, r2, r3, r4, r5, r6, r7⟩, fr⟩ := M2.out.2.1
        clear M2
        go_wp2
        exact bodyPost_ret (v := .agg #[.string na, .string va, .string dm, .string pa, .int .i64 nv, .bool se, .int .i64 mo, .bool pt]) (by simp [results, Tryd.results104, go_sem, r0, r1, r2, r3, r4, r5, r6, r7]) rfl ⟨by rw [HX.out]; rfl, (Below.setCell (Below.setCell (Below.setCell (Below.setCell (Below.setCell (Below.setCell (Below.setCell (Below.setCell (Below.setCell B2.out (p := ⟨w.heap.size, 4, none⟩) (Nat.le_refl _) _) (p := ⟨w.heap.size + 1, 0, none⟩) (Nat.le_succ _) _) (p := ⟨w.heap.size + 1, 1, none⟩) (Nat.le_succ _) _) (p := ⟨w.heap.size + 1, 2, none⟩) (Nat.le_succ _) _) (p := ⟨w.heap.size + 1, 3, none⟩) (Nat.le_succ _) _) (p := ⟨w.heap.size + 1, 4, none⟩) (Nat.le_succ _) _) (p := ⟨w.heap.size + 1, 5, none⟩) (Nat.le_succ _) _) (p := ⟨w.heap.size + 1, 6, none⟩) (Nat.le_succ _) _) (p := ⟨w.heap.size + 1, 7, none⟩) (Nat.le_succ _) _)⟩
      | false =>
        have HX : Hid (R = ⟨na, va, dm, pa, ag, se, mo, pt⟩) := by show _ = _; rw [HR.out, if_neg (by rw [e0]; decide), if_neg (by rw [e1]; decide), if_neg (by rw [e2]; decide)]
        unfold tDomain at e0
        unfold tPath at e1
        unfold tAge at e2
        have B2 : Hid (Below w.heap.size w w1) := M1.out.2.2
        obtain ⟨-, ⟨p0, p1, p2, p3, p4, p5, p6, p7⟩, fp⟩ := M1.out.1
        obtain ⟨-, ⟨r0, r1, r2, r3, r4, r5, r6, r7⟩, fr⟩ := M1.out.2.1
        clear M1
        go_wp2
        exact bodyPost_ret (v := .agg #[.string na, .string va, .string dm, .string pa, .int .i64 ag, .bool se, .int .i64 mo, .bool pt]) (by simp [results, Tryd.results104, go_sem, r0, r1, r2, r3, r4, r5, r6, r7]) rfl ⟨by rw [HX.out]; rfl, (Below.setCell (Below.setCell (Below.setCell (Below.setCell (Below.setCell (Below.setCell (Below.setCell (Below.setCell B2.out (p := ⟨w.heap.size + 1, 0, none⟩) (Nat.le_succ _) _) (p := ⟨w.heap.size + 1, 1, none⟩) (Nat.le_succ _) _) (p := ⟨w.heap.size + 1, 2, none⟩) (Nat.le_succ _) _) (p := ⟨w.heap.size + 1, 3, none⟩) (Nat.le_succ _) _) (p := ⟨w.heap.size + 1, 4, none⟩) (Nat.le_succ _) _) (p := ⟨w.heap.size + 1, 5, none⟩) (Nat.le_succ _) _) (p := ⟨w.heap.size + 1, 6, none⟩) (Nat.le_succ _) _) (p := ⟨w.heap.size + 1, 7, none⟩) (Nat.le_succ _) _)⟩
set_option maxRecDepth 10000 in
set_option maxHeartbeats 16000000 in
theorem withAttribute_any (c : SC) (x : ByteArray) (w : World) (hG : MaxI w) (hE : ErrI w) (hx : x.size ≤ 8000) (hm0 : 0 ≤ c.mo) (hm1 : c.mo ≤ 1000000) :
    Calls Tryd.prog 81 #[scV c, .string x] w fun e w' => e = .returned (scV (iPut c x)) ∧ Below w.heap.size w w' := by
  have HI : Hid (iPut c x = if (x.toList == tNoneW) = true then { c with mo := c.mo + 1 + 1 } else if (x.toList == tStrictW) = true then { c with mo := c.mo + 1 } else if (x.toList == tSecure) = true then { c with se := true } else if (x.toList == tParted) = true then { c with pt := true } else iVal c x) := rfl
  have KV : Hid (∀ W, Below w.heap.size w W → Calls Tryd.prog 104 #[scV c, .string x] W fun e w' => e = .returned (scV (iVal c x)) ∧ Below W.heap.size W w') := fun W hb => withValue_any c x W (hG.on hb) (hE.on hb) hx
  clear hG hE hx
  generalize iPut c x = R at *
  generalize iVal c x = V at *
  obtain ⟨na, va, dm, pa, ag, se, mo, pt⟩ := c
  obtain ⟨na', va', dm', pa', ag', se', mo', pt'⟩ := V
  have HR : Hid (R = if (x.toList == tNoneW) = true then ⟨na, va, dm, pa, ag, se, mo + 1 + 1, pt⟩ else if (x.toList == tStrictW) = true then ⟨na, va, dm, pa, ag, se, mo + 1, pt⟩ else if (x.toList == tSecure) = true then ⟨na, va, dm, pa, ag, true, mo, pt⟩ else if (x.toList == tParted) = true then ⟨na, va, dm, pa, ag, se, mo, true⟩ else ⟨na', va', dm', pa', ag', se', mo', pt'⟩) := HI
  have KV' : Hid (∀ W, Below w.heap.size w W → Calls Tryd.prog 104 #[.agg #[.string na, .string va, .string dm, .string pa, .int .i64 ag, .bool se, .int .i64 mo, .bool pt], .string x] W fun e w' => e = .returned (.agg #[.string na', .string va', .string dm', .string pa', .int .i64 ag', .bool se', .int .i64 mo', .bool pt']) ∧ Below W.heap.size W w') := KV
  clear KV HI
  have hm0 : 0 ≤ mo := hm0
  have hm1 : mo ≤ 1000000 := hm1
  show Calls _ _ #[.agg #[.string na, .string va, .string dm, .string pa, .int .i64 ag, .bool se, .int .i64 mo, .bool pt], _] _ _
  have M0 : Hid (U8 ((w.alloc (.cells #[.string na, .string va, .string dm, .string pa, .int .i64 ag, .bool se, .int .i64 mo, .bool pt] 32)).alloc (.cells #[.string ⟨#[]⟩, .string ⟨#[]⟩, .string ⟨#[]⟩, .string ⟨#[]⟩, .int .i64 0, .bool false, .int .i64 0, .bool false] 32)) w.heap.size (.string na) (.string va) (.string dm) (.string pa) (.int .i64 ag) (.bool se) (.int .i64 mo) (.bool pt) ∧ U8 ((w.alloc (.cells #[.string na, .string va, .string dm, .string pa, .int .i64 ag, .bool se, .int .i64 mo, .bool pt] 32)).alloc (.cells #[.string ⟨#[]⟩, .string ⟨#[]⟩, .string ⟨#[]⟩, .string ⟨#[]⟩, .int .i64 0, .bool false, .int .i64 0, .bool false] 32)) (w.heap.size + 1) (.string ⟨#[]⟩) (.string ⟨#[]⟩) (.string ⟨#[]⟩) (.string ⟨#[]⟩) (.int .i64 0) (.bool false) (.int .i64 0) (.bool false) ∧ Below w.heap.size w ((w.alloc (.cells #[.string na, .string va, .string dm, .string pa, .int .i64 ag, .bool se, .int .i64 mo, .bool pt] 32)).alloc (.cells #[.string ⟨#[]⟩, .string ⟨#[]⟩, .string ⟨#[]⟩, .string ⟨#[]⟩, .int .i64 0, .bool false, .int .i64 0, .bool false] 32)) ∧ ((w.alloc (.cells #[.string na, .string va, .string dm, .string pa, .int .i64 ag, .bool se, .int .i64 mo, .bool pt] 32)).alloc (.cells #[.string ⟨#[]⟩, .string ⟨#[]⟩, .string ⟨#[]⟩, .string ⟨#[]⟩, .int .i64 0, .bool false, .int .i64 0, .bool false] 32)).heap.size = w.heap.size + 2) := by
    have a := U8.made w (.string na) (.string va) (.string dm) (.string pa) (.int .i64 ag) (.bool se) (.int .i64 mo) (.bool pt) 32
    have b := U8.made (w.alloc (.cells #[.string na, .string va, .string dm, .string pa, .int .i64 ag, .bool se, .int .i64 mo, .bool pt] 32)) (.string ⟨#[]⟩) (.string ⟨#[]⟩) (.string ⟨#[]⟩) (.string ⟨#[]⟩) (.int .i64 0) (.bool false) (.int .i64 0) (.bool false) 32
    have e : (w.alloc (.cells #[.string na, .string va, .string dm, .string pa, .int .i64 ag, .bool se, .int .i64 mo, .bool pt] 32)).heap.size = w.heap.size + 1 := by simp
    rw [e] at b
    exact ⟨a.below ((Below.refl _ _).alloc (Nat.le_refl _) _), b, ((Below.refl _ _).alloc (Nat.le_refl _) _).alloc (by simp) _, by simp⟩
  go_enter Tryd.func81, Tryd.ntmps81
  go_upto_region 1 with fail
  generalize ((w.alloc (.cells #[.string na, .string va, .string dm, .string pa, .int .i64 ag, .bool se, .int .i64 mo, .bool pt] 32)).alloc (.cells #[.string ⟨#[]⟩, .string ⟨#[]⟩, .string ⟨#[]⟩, .string ⟨#[]⟩, .int .i64 0, .bool false, .int .i64 0, .bool false] 32)) = w1 at *
  cases e0 : (x.toList == tNoneW) with
  | true =>
    have HX : Hid (R = ⟨na, va, dm, pa, ag, se, mo + 1 + 1, pt⟩) := by show _ = _; rw [HR.out, if_pos e0]
    unfold tNoneW at e0
    have B2 : Hid (Below w.heap.size w w1) := M0.out.2.2.1
    obtain ⟨-, ⟨p0, p1, p2, p3, p4, p5, p6, p7⟩, fp⟩ := M0.out.1
    obtain ⟨-, ⟨r0, r1, r2, r3, r4, r5, r6, r7⟩, fr⟩ := M0.out.2.1
    clear M0
    go_wp2
    exact bodyPost_ret (v := .agg #[.string na, .string va, .string dm, .string pa, .int .i64 ag, .bool se, .int .i64 (mo + 1 + 1), .bool pt]) (by simp [results, Tryd.results81, go_sem, r0, r1, r2, r3, r4, r5, r6, r7]) rfl ⟨by rw [HX.out]; rfl, (Below.setCell (Below.setCell (Below.setCell (Below.setCell (Below.setCell (Below.setCell (Below.setCell (Below.setCell (Below.setCell (Below.setCell B2.out (p := ⟨w.heap.size, 6, none⟩) (Nat.le_refl _) _) (p := ⟨w.heap.size, 6, none⟩) (Nat.le_refl _) _) (p := ⟨w.heap.size + 1, 0, none⟩) (Nat.le_succ _) _) (p := ⟨w.heap.size + 1, 1, none⟩) (Nat.le_succ _) _) (p := ⟨w.heap.size + 1, 2, none⟩) (Nat.le_succ _) _) (p := ⟨w.heap.size + 1, 3, none⟩) (Nat.le_succ _) _) (p := ⟨w.heap.size + 1, 4, none⟩) (Nat.le_succ _) _) (p := ⟨w.heap.size + 1, 5, none⟩) (Nat.le_succ _) _) (p := ⟨w.heap.size + 1, 6, none⟩) (Nat.le_succ _) _) (p := ⟨w.heap.size + 1, 7, none⟩) (Nat.le_succ _) _)⟩
  | false =>
    cases e1 : (x.toList == tStrictW) with
    | true =>
      have HX : Hid (R = ⟨na, va, dm, pa, ag, se, mo + 1, pt⟩) := by show _ = _; rw [HR.out, if_neg (by rw [e0]; decide), if_pos e1]
      unfold tNoneW at e0
      unfold tStrictW at e1
      have B2 : Hid (Below w.heap.size w w1) := M0.out.2.2.1
      obtain ⟨-, ⟨p0, p1, p2, p3, p4, p5, p6, p7⟩, fp⟩ := M0.out.1
      obtain ⟨-, ⟨r0, r1, r2, r3, r4, r5, r6, r7⟩, fr⟩ := M0.out.2.1
      clear M0
      go_wp2
      exact bodyPost_ret (v := .agg #[.string na, .string va, .string dm, .string pa, .int .i64 ag, .bool se, .int .i64 (mo + 1), .bool pt]) (by simp [results, Tryd.results81, go_sem, r0, r1, r2, r3, r4, r5, r6, r7]) rfl ⟨by rw [HX.out]; rfl, (Below.setCell (Below.setCell (Below.setCell (Below.setCell (Below.setCell (Below.setCell (Below.setCell (Below.setCell (Below.setCell B2.out (p := ⟨w.heap.size, 6, none⟩) (Nat.le_refl _) _) (p := ⟨w.heap.size + 1, 0, none⟩) (Nat.le_succ _) _) (p := ⟨w.heap.size + 1, 1, none⟩) (Nat.le_succ _) _) (p := ⟨w.heap.size + 1, 2, none⟩) (Nat.le_succ _) _) (p := ⟨w.heap.size + 1, 3, none⟩) (Nat.le_succ _) _) (p := ⟨w.heap.size + 1, 4, none⟩) (Nat.le_succ _) _) (p := ⟨w.heap.size + 1, 5, none⟩) (Nat.le_succ _) _) (p := ⟨w.heap.size + 1, 6, none⟩) (Nat.le_succ _) _) (p := ⟨w.heap.size + 1, 7, none⟩) (Nat.le_succ _) _)⟩
    | false =>
      cases e2 : (x.toList == tSecure) with
      | true =>
        have HX : Hid (R = ⟨na, va, dm, pa, ag, true, mo, pt⟩) := by show _ = _; rw [HR.out, if_neg (by rw [e0]; decide), if_neg (by rw [e1]; decide), if_pos e2]
        unfold tNoneW at e0
        unfold tStrictW at e1
        unfold tSecure at e2
        have B2 : Hid (Below w.heap.size w w1) := M0.out.2.2.1
        obtain ⟨-, ⟨p0, p1, p2, p3, p4, p5, p6, p7⟩, fp⟩ := M0.out.1
        obtain ⟨-, ⟨r0, r1, r2, r3, r4, r5, r6, r7⟩, fr⟩ := M0.out.2.1
        clear M0
        go_wp2
        exact bodyPost_ret (v := .agg #[.string na, .string va, .string dm, .string pa, .int .i64 ag, .bool true, .int .i64 mo, .bool pt]) (by simp [results, Tryd.results81, go_sem, r0, r1, r2, r3, r4, r5, r6, r7]) rfl ⟨by rw [HX.out]; rfl, (Below.setCell (Below.setCell (Below.setCell (Below.setCell (Below.setCell (Below.setCell (Below.setCell (Below.setCell (Below.setCell B2.out (p := ⟨w.heap.size, 5, none⟩) (Nat.le_refl _) _) (p := ⟨w.heap.size + 1, 0, none⟩) (Nat.le_succ _) _) (p := ⟨w.heap.size + 1, 1, none⟩) (Nat.le_succ _) _) (p := ⟨w.heap.size + 1, 2, none⟩) (Nat.le_succ _) _) (p := ⟨w.heap.size + 1, 3, none⟩) (Nat.le_succ _) _) (p := ⟨w.heap.size + 1, 4, none⟩) (Nat.le_succ _) _) (p := ⟨w.heap.size + 1, 5, none⟩) (Nat.le_succ _) _) (p := ⟨w.heap.size + 1, 6, none⟩) (Nat.le_succ _) _) (p := ⟨w.heap.size + 1, 7, none⟩) (Nat.le_succ _) _)⟩
      | false =>
        cases e3 : (x.toList == tParted) with
        | true =>
          have HX : Hid (R = ⟨na, va, dm, pa, ag, se, mo, true⟩) := by show _ = _; rw [HR.out, if_neg (by rw [e0]; decide), if_neg (by rw [e1]; decide), if_neg (by rw [e2]; decide), if_pos e3]
          unfold tNoneW at e0
          unfold tStrictW at e1
          unfold tSecure at e2
          unfold tParted at e3
          have B2 : Hid (Below w.heap.size w w1) := M0.out.2.2.1
          obtain ⟨-, ⟨p0, p1, p2, p3, p4, p5, p6, p7⟩, fp⟩ := M0.out.1
          obtain ⟨-, ⟨r0, r1, r2, r3, r4, r5, r6, r7⟩, fr⟩ := M0.out.2.1
          clear M0
          go_wp2
          exact bodyPost_ret (v := .agg #[.string na, .string va, .string dm, .string pa, .int .i64 ag, .bool se, .int .i64 mo, .bool true]) (by simp [results, Tryd.results81, go_sem, r0, r1, r2, r3, r4, r5, r6, r7]) rfl ⟨by rw [HX.out]; rfl, (Below.setCell (Below.setCell (Below.setCell (Below.setCell (Below.setCell (Below.setCell (Below.setCell (Below.setCell (Below.setCell B2.out (p := ⟨w.heap.size, 7, none⟩) (Nat.le_refl _) _) (p := ⟨w.heap.size + 1, 0, none⟩) (Nat.le_succ _) _) (p := ⟨w.heap.size + 1, 1, none⟩) (Nat.le_succ _) _) (p := ⟨w.heap.size + 1, 2, none⟩) (Nat.le_succ _) _) (p := ⟨w.heap.size + 1, 3, none⟩) (Nat.le_succ _) _) (p := ⟨w.heap.size + 1, 4, none⟩) (Nat.le_succ _) _) (p := ⟨w.heap.size + 1, 5, none⟩) (Nat.le_succ _) _) (p := ⟨w.heap.size + 1, 6, none⟩) (Nat.le_succ _) _) (p := ⟨w.heap.size + 1, 7, none⟩) (Nat.le_succ _) _)⟩
        | false =>
          have HX : Hid (R = ⟨na', va', dm', pa', ag', se', mo', pt'⟩) := by show _ = _; rw [HR.out, if_neg (by rw [e0]; decide), if_neg (by rw [e1]; decide), if_neg (by rw [e2]; decide), if_neg (by rw [e3]; decide)]
          unfold tNoneW at e0
          unfold tStrictW at e1
          unfold tSecure at e2
          unfold tParted at e3
          obtain ⟨-, ⟨q0, q1, q2, q3, q4, q5, q6, q7⟩, fq⟩ := M0.out.1
          go_wp2_with fail
          refine (KV'.out _ M0.out.2.2.1).mono ?_
          rintro e w2 ⟨rfl, hb2⟩
          clear q0 q1 q2 q3 q4 q5 q6 q7 fq
          have M2 : Hid (U8 w2 w.heap.size (.string na) (.string va) (.string dm) (.string pa) (.int .i64 ag) (.bool se) (.int .i64 mo) (.bool pt) ∧ U8 w2 (w.heap.size + 1) (.string ⟨#[]⟩) (.string ⟨#[]⟩) (.string ⟨#[]⟩) (.string ⟨#[]⟩) (.int .i64 0) (.bool false) (.int .i64 0) (.bool false) ∧ Below w.heap.size w w2) := ⟨M0.out.1.below hb2, M0.out.2.1.below hb2, M0.out.2.2.1.trans (hb2.mono M0.out.2.2.1.size)⟩
          clear hb2 M0
          have B2 : Hid (Below w.heap.size w w2) := M2.out.2.2
          obtain ⟨-, ⟨p0, p1, p2, p3, p4, p5, p6, p7⟩, fp⟩ := M2.out.1
          obtain ⟨-, ⟨r0, r1, r2, r3, r4, r5, r6, r7⟩, fr⟩ := M2.out.2.1
          clear M2
          go_wp2
          exact bodyPost_ret (v := .agg #[.string na', .string va', .string dm', .string pa', .int .i64 ag', .bool se', .int .i64 mo', .bool pt']) (by simp [results, Tryd.results81, go_sem, r0, r1, r2, r3, r4, r5, r6, r7]) rfl ⟨by rw [HX.out]; rfl, (Below.setCell (Below.setCell (Below.setCell (Below.setCell (Below.setCell (Below.setCell (Below.setCell (Below.setCell (Below.setCell (Below.setCell (Below.setCell (Below.setCell (Below.setCell (Below.setCell (Below.setCell (Below.setCell B2.out (p := ⟨w.heap.size, 0, none⟩) (Nat.le_refl _) _) (p := ⟨w.heap.size, 1, none⟩) (Nat.le_refl _) _) (p := ⟨w.heap.size, 2, none⟩) (Nat.le_refl _) _) (p := ⟨w.heap.size, 3, none⟩) (Nat.le_refl _) _) (p := ⟨w.heap.size, 4, none⟩) (Nat.le_refl _) _) (p := ⟨w.heap.size, 5, none⟩) (Nat.le_refl _) _) (p := ⟨w.heap.size, 6, none⟩) (Nat.le_refl _) _) (p := ⟨w.heap.size, 7, none⟩) (Nat.le_refl _) _) (p := ⟨w.heap.size + 1, 0, none⟩) (Nat.le_succ _) _) (p := ⟨w.heap.size + 1, 1, none⟩) (Nat.le_succ _) _) (p := ⟨w.heap.size + 1, 2, none⟩) (Nat.le_succ _) _) (p := ⟨w.heap.size + 1, 3, none⟩) (Nat.le_succ _) _) (p := ⟨w.heap.size + 1, 4, none⟩) (Nat.le_succ _) _) (p := ⟨w.heap.size + 1, 5, none⟩) (Nat.le_succ _) _) (p := ⟨w.heap.size + 1, 6, none⟩) (Nat.le_succ _) _) (p := ⟨w.heap.size + 1, 7, none⟩) (Nat.le_succ _) _)⟩
end Go.Proofs.YthcpmbolnmlohaaDoor
