/- A right url comes back from its text: plain facts, no walk. -/
import Derived.Test.YtknjkakokcblnaaDoorSpecUrlRead
namespace Go.Proofs.YtknjkakokcblnaaDoor

theorem isAt_head {t x : ByteArray} {i : Nat} (hx : 0 < x.size) (hi : i + x.size ≤ t.size) (h : isAt t x i = true) : t[i] = x[0] := by
  unfold isAt at h
  rw [beq_iff_eq] at h
  have e : t.extract i (i + x.size) = x := by
    apply ByteArray.ext
    rw [ByteArray.toList_eq, ByteArray.toList_eq] at h
    exact Array.toList_inj.mp h
  have e0 : (t.extract i (i + x.size))[0]'(by rw [e]; exact hx) = x[0] := by simp only [e]
  rw [ByteArray.getElem_extract] at e0
  simpa using e0
theorem findTo_no {t x : ByteArray} (hx : 0 < x.size) (k : Nat) (hno : ∀ i (h : i < t.size), i < k → t[i] ≠ x[0]) : findTo t x k = none := by
  induction k with
  | zero => rfl
  | succ k ih =>
    refine findTo_miss (ih (fun i h hi => hno i h (by omega))) ?_
    rintro ⟨h1, h2⟩
    exact hno k (by omega) (by omega) (isAt_head hx h1 h2)
theorem findN_first {t x : ByteArray} (k : Nat) (hx : 0 < x.size) (hk : k + x.size ≤ t.size) (hat : isAt t x k = true) (hno : ∀ i (h : i < t.size), i < k → t[i] ≠ x[0]) : findN t x = some k := by
  have h := findTo_keep (findTo_hit (findTo_no hx k hno) hk hat) (t.size - k)
  unfold findN
  rw [show t.size + 1 = k + 1 + (t.size - k) by omega, h]
theorem findN_nowhere {t x : ByteArray} (hx : 0 < x.size) (hno : ∀ i (h : i < t.size), t[i] ≠ x[0]) : findN t x = none :=
  findTo_no hx _ (fun i h _ => hno i h)
theorem isAt_mid (a x b : ByteArray) : isAt (a ++ x ++ b) x a.size = true := by
  unfold isAt
  rw [beq_iff_eq]
  congr 1
  have h := ByteArray.extract_append_size_add (a := a) (b := x ++ b) (i := 0) (j := x.size)
  rw [Nat.add_zero] at h
  rw [ByteArray.append_assoc, h]
  exact ByteArray.extract_append_eq_left rfl
theorem findN_mid (a x b : ByteArray) (hx : 0 < x.size) (hno : ∀ i (h : i < a.size), a[i] ≠ x[0]) : findN (a ++ x ++ b) x = some a.size := by
  refine findN_first a.size hx (by rw [ByteArray.size_append, ByteArray.size_append]; omega) (isAt_mid a x b) ?_
  intro i h hi
  rw [ByteArray.getElem_append_left (by rw [ByteArray.size_append]; omega), ByteArray.getElem_append_left hi]
  exact hno i hi

theorem tail_of (a b : ByteArray) (n : Nat) (h : n = a.size) : (a ++ b).extract n (a ++ b).size = b := ByteArray.extract_append_eq_right h ByteArray.size_append
theorem head_of (a b : ByteArray) (n : Nat) (h : n = a.size) : (a ++ b).extract 0 n = a := ByteArray.extract_append_eq_left h

/-- a text with its three parts is read as these -/
theorem read_parts (sc hp pa : ByteArray) (h1 : ∀ i (h : i < sc.size), sc[i] ≠ 58) (h2 : ∀ i (h : i < hp.size), hp[i] ≠ 47) (h3 : 0 < pa.size) (h4 : pa[0] = 47) :
    readU (sc ++ ⟨#[58, 47, 47]⟩ ++ hp ++ pa) = match findN hp ⟨#[58]⟩ with
      | none => (sc, hp, usualP sc, pa)
      | some c => (sc, hp.extract 0 c, numI (hp.extract (c + 1) hp.size), pa) := by
  have e1 : findN (sc ++ ⟨#[58, 47, 47]⟩ ++ hp ++ pa) ⟨#[58, 47, 47]⟩ = some sc.size := by
    rw [ByteArray.append_assoc]
    exact findN_mid sc ⟨#[58, 47, 47]⟩ (hp ++ pa) (by decide) h1
  have s3 : (sc ++ (⟨#[58, 47, 47]⟩ : ByteArray)).size = sc.size + 3 := by rw [ByteArray.size_append]; rfl
  have e2 : (sc ++ ⟨#[58, 47, 47]⟩ ++ hp ++ pa).extract (sc.size + 3) (sc ++ ⟨#[58, 47, 47]⟩ ++ hp ++ pa).size = hp ++ pa := by
    rw [ByteArray.append_assoc (a := sc ++ ⟨#[58, 47, 47]⟩)]
    exact tail_of _ _ _ s3.symm
  have e3 : (sc ++ ⟨#[58, 47, 47]⟩ ++ hp ++ pa).extract 0 sc.size = sc := by
    rw [ByteArray.append_assoc, ByteArray.append_assoc]
    exact head_of _ _ _ rfl
  have e4 : findN (hp ++ pa) ⟨#[47]⟩ = some hp.size := by
    refine findN_first hp.size (by decide) ?_ ?_ ?_
    · rw [ByteArray.size_append]
      show hp.size + 1 ≤ _
      omega
    · unfold isAt
      rw [beq_iff_eq]
      congr 1
      have h := ByteArray.extract_append_size_add (a := hp) (b := pa) (i := 0) (j := 1)
      rw [Nat.add_zero] at h
      show (hp ++ pa).extract hp.size (hp.size + 1) = _
      rw [h]
      apply ByteArray.ext_getElem
      · rw [ByteArray.size_extract]
        show min 1 pa.size - 0 = 1
        omega
      · intro i hi hi'
        have : i = 0 := by
          have : i < 1 := hi'
          omega
        subst this
        rw [ByteArray.getElem_extract]
        exact h4
    · intro i h hi
      rw [ByteArray.getElem_append_left hi]
      exact h2 i hi
  unfold readU
  rw [e1]
  simp only
  rw [e2, e4]
  simp only
  rw [e3, head_of hp pa _ rfl, tail_of hp pa _ rfl]
  cases findN hp ⟨#[58]⟩ <;> rfl

/-- the number that digits tell -/
def numL (l : List UInt8) : Nat := l.foldl (fun n c => 10 * n + (c.toNat - 48)) 0
theorem numL_snoc (l : List UInt8) (d : UInt8) : numL (l ++ [d]) = 10 * numL l + (d.toNat - 48) := by
  unfold numL; rw [List.foldl_append]; rfl
theorem numTo_take (t : ByteArray) (i : Nat) (h : i ≤ t.size) : numTo t i = numL (t.data.toList.take i) := by
  induction i with
  | zero => rfl
  | succ i ih =>
    have hl : i < t.data.toList.length := by simp; omega
    rw [numTo_succ (by omega), ih (by omega), List.take_succ_eq_append_getElem hl, numL_snoc]
    rfl
theorem digit_nat (m : Nat) : (UInt8.ofNat (48 + m % 10)).toNat = 48 + m % 10 := by
  rw [UInt8.toNat_ofNat']
  have : m % 10 < 10 := Nat.mod_lt _ (by decide)
  omega
theorem decA_num (m : Nat) : numL (decA m) = m := by
  induction m using Nat.strongRecOn with
  | _ m ih =>
    by_cases h : m = 0
    · subst h; rfl
    · rw [decA_pos (by omega), numL_snoc, ih (m / 10) (by omega), digit_nat]; omega
theorem decA_dig (m : Nat) : ∀ c ∈ decA m, 48 ≤ c.toNat ∧ c.toNat ≤ 57 := by
  induction m using Nat.strongRecOn with
  | _ m ih =>
    by_cases h : m = 0
    · subst h; intro c hc; cases hc
    · rw [decA_pos (by omega)]
      intro c hc
      rw [List.mem_append] at hc
      rcases hc with hc | hc
      · exact ih (m / 10) (by omega) c hc
      · rw [List.mem_singleton] at hc
        subst hc
        rw [digit_nat]; omega
theorem decA_lead (m : Nat) (h : 0 < m) : ∃ c l, decA m = c :: l ∧ ¬ c.toNat = 48 := by
  induction m using Nat.strongRecOn with
  | _ m ih =>
    by_cases h10 : m < 10
    · rw [decA_pos h, show m / 10 = 0 by omega, decA_zero]
      exact ⟨_, _, rfl, by rw [digit_nat]; omega⟩
    · obtain ⟨c, l, hc, hn⟩ := ih (m / 10) (by omega) (by omega)
      rw [decA_pos h, hc]
      exact ⟨c, _, rfl, hn⟩
theorem decB_back (n : Int) (h1 : 1 ≤ n) (h2 : n ≤ 65535) : numI (decB n) = n := by
  have hd : decB n = ⟨(decA n.natAbs).toArray⟩ := by rw [decB, if_neg (by omega), if_neg (by omega)]
  have hz : (decB n).size = (decA n.natAbs).length := by rw [hd]; rfl
  have hl := decA_len 5 n.natAbs (by omega)
  obtain ⟨c, l, hc, hn⟩ := decA_lead n.natAbs (by omega)
  have hp : 0 < (decA n.natAbs).length := by rw [hc]; simp
  rw [numI_yes (by omega) (by omega)]
  · rw [numTo_take _ _ (Nat.le_refl _), hd]
    show ((numL ((decA n.natAbs).take (decA n.natAbs).length) : Nat) : Int) = n
    rw [List.take_length, decA_num]; omega
  · intro _ h0
    have e : (decB n)[0] = c := by
      simp only [hd]
      show (decA n.natAbs)[0] = c
      simp only [hc]; rfl
    rw [e]; exact hn
  · intro i h
    have e : (decB n)[i] = (decA n.natAbs)[i]'(by omega) := by
      simp only [hd]; rfl
    rw [e]
    exact digC_yes (decA_dig n.natAbs _ (List.getElem_mem _))
theorem decB_dig (n : Int) (h1 : 1 ≤ n) : ∀ i (h : i < (decB n).size), 48 ≤ (decB n)[i].toNat ∧ (decB n)[i].toNat ≤ 57 := by
  have hd : decB n = ⟨(decA n.natAbs).toArray⟩ := by rw [decB, if_neg (by omega), if_neg (by omega)]
  intro i h
  have hz : (decB n).size = (decA n.natAbs).length := by rw [hd]; rfl
  have e : (decB n)[i] = (decA n.natAbs)[i]'(by omega) := by
    simp only [hd]; rfl
  rw [e]
  exact decA_dig n.natAbs _ (List.getElem_mem _)

/-- each byte of a text is the one that it is cut at, or one of a piece's -/
theorem splitTo_bytes (s : ByteArray) (c k : Nat) : ∀ i (h : i < s.size), i < k → s[i].toNat = c ∨ (∃ x ∈ (splitTo s c k).1, ∃ j, ∃ hj : j < x.size, x[j] = s[i]) ∨ (splitTo s c k).2 ≤ i := by
  induction k with
  | zero => intro i _ h; omega
  | succ k ih =>
    intro i h hi
    by_cases hk : k < s.size
    · by_cases hc : s[k].toNat = c
      · rw [splitTo_hit hk hc]
        by_cases e : i = k
        · subst e; exact .inl hc
        · rcases ih i h (by omega) with h1 | ⟨x, hx, hj⟩ | h1
          · exact .inl h1
          · exact .inr (.inl ⟨x, List.mem_append_left _ hx, hj⟩)
          · refine .inr (.inl ⟨_, List.mem_append_right _ (List.mem_singleton.mpr rfl), i - (splitTo s c k).2, ?_, ?_⟩)
            · rw [ByteArray.size_extract]; omega
            · rw [ByteArray.getElem_extract]
              congr 1; omega
      · rw [splitTo_miss hk hc]
        by_cases e : i = k
        · subst e; exact .inr (.inr (splitTo_le s c i).1)
        · exact ih i h (by omega)
    · have e : splitTo s c (k + 1) = splitTo s c k := by rw [splitTo, dif_neg hk]
      rw [e]
      exact ih i h (by omega)
theorem splitB_bytes (s : ByteArray) (c : Nat) : ∀ i (h : i < s.size), s[i].toNat = c ∨ ∃ x ∈ splitB s c, ∃ j, ∃ hj : j < x.size, x[j] = s[i] := by
  intro i h
  rcases splitTo_bytes s c s.size i h h with h1 | ⟨x, hx, hj⟩ | h1
  · exact .inl h1
  · exact .inr ⟨x, List.mem_append_left _ hx, hj⟩
  · refine .inr ⟨_, List.mem_append_right _ (List.mem_singleton.mpr rfl), i - (splitTo s c s.size).2, ?_, ?_⟩
    · rw [ByteArray.size_extract]; omega
    · rw [ByteArray.getElem_extract]
      congr 1; omega
theorem hostB_bytes {s : ByteArray} (h : hostB s = true) : ∀ i (h : i < s.size), ((97 ≤ s[i].toNat ∧ s[i].toNat ≤ 122) ∨ (48 ≤ s[i].toNat ∧ s[i].toNat ≤ 57) ∨ s[i].toNat = 45) ∨ s[i].toNat = 46 := by
  intro i hi
  unfold hostB at h
  simp only [Bool.and_eq_true] at h
  rcases splitB_bytes s 46 i hi with h1 | ⟨x, hx, j, hj, e⟩
  · exact .inr h1
  · refine .inl ?_
    have hl := List.all_eq_true.mp h.1.2 x hx
    unfold labelB at hl
    rw [decide_eq_true_iff] at hl
    have := hl.2.2.2.2 j hj
    rw [e] at this
    unfold labC at this
    rwa [decide_eq_true_iff] at this
theorem ne_of_nat {a b : UInt8} (h : a.toNat ≠ b.toNat) : a ≠ b := fun e => h (by rw [e])
theorem schemeB_bytes {s : ByteArray} (h : schemeB s = true) : ∀ i (h : i < s.size), s[i] ≠ 58 := by
  have hm : ∀ i (h : i < s.size), s[i] ∈ s.toList := by
    intro i h
    rw [ByteArray.toList_eq]
    exact List.getElem_mem (l := s.data.toList) (by simpa using h)
  intro i hi
  have := hm i hi
  unfold schemeB at h
  rw [Bool.or_eq_true, beq_iff_eq, beq_iff_eq] at h
  rcases h with h | h
  · rw [h] at this
    revert this
    generalize s[i] = c
    intro hc e
    subst e
    exact absurd hc (by decide)
  · rw [h] at this
    revert this
    generalize s[i] = c
    intro hc e
    subst e
    exact absurd hc (by decide)
/-- a right url is read back from its text -/
theorem read_back (sc ho pa : ByteArray) (po : Int) (h : urlB sc ho pa po = true) : readU (urlT sc ho pa po) = (sc, ho, po, pa) := by
  have h' := h
  unfold urlB placeB at h'
  simp only [Bool.and_eq_true, decide_eq_true_eq] at h'
  obtain ⟨⟨⟨h1, h2⟩, h3, h4⟩, h5⟩ := h'
  have hs := schemeB_bytes h1
  have hb := hostB_bytes h2
  unfold pathB at h5
  rw [decide_eq_true_iff] at h5
  obtain ⟨p1, _, p2, _⟩ := h5
  have hp0 : 0 < pa.size := by omega
  have hp : pa[0] = 47 := UInt8.toNat_inj.mp (p2 hp0)
  have hn47 : ∀ i (h : i < ho.size), ho[i] ≠ 47 := fun i h => ne_of_nat (by have := hb i h; show _ ≠ 47; omega)
  have hn58 : ∀ i (h : i < ho.size), ho[i] ≠ 58 := fun i h => ne_of_nat (by have := hb i h; show _ ≠ 58; omega)
  rw [urlT, if_pos h, placeT]
  by_cases hu : po = usualP sc
  · rw [if_pos hu, read_parts sc ho pa hs hn47 hp0 hp, findN_nowhere (x := ⟨#[58]⟩) (by decide) hn58, hu]
  · rw [if_neg hu]
    have ea : sc ++ ⟨#[58, 47, 47]⟩ ++ ho ++ ⟨#[58]⟩ ++ decB po ++ pa = sc ++ ⟨#[58, 47, 47]⟩ ++ (ho ++ ⟨#[58]⟩ ++ decB po) ++ pa := by
      simp only [ByteArray.append_assoc]
    have s1 : (ho ++ (⟨#[58]⟩ : ByteArray)).size = ho.size + 1 := by rw [ByteArray.size_append]; rfl
    rw [ea, read_parts sc (ho ++ ⟨#[58]⟩ ++ decB po) pa hs ?_ hp0 hp, findN_mid ho ⟨#[58]⟩ (decB po) (by decide) hn58]
    · simp only
      rw [tail_of _ _ _ s1.symm, decB_back po h3 h4]
      have e0 : (ho ++ ⟨#[58]⟩ ++ decB po).extract 0 ho.size = ho := by rw [ByteArray.append_assoc]; exact head_of _ _ _ rfl
      rw [e0]
    · intro i hi
      by_cases c1 : i < (ho ++ (⟨#[58]⟩ : ByteArray)).size
      · rw [ByteArray.getElem_append_left c1]
        by_cases c2 : i < ho.size
        · rw [ByteArray.getElem_append_left c2]; exact hn47 i c2
        · rw [ByteArray.getElem_append_right (by omega)]
          have : i - ho.size = 0 := by omega
          simp only [this]
          exact ne_of_nat (by show (58 : Nat) ≠ 47; decide)
      · rw [ByteArray.getElem_append_right (by omega)]
        refine ne_of_nat ?_
        have := decB_dig po h3 (i - (ho ++ (⟨#[58]⟩ : ByteArray)).size) (by rw [ByteArray.size_append] at hi; omega)
        show _ ≠ 47
        omega
theorem urlT_pos {sc ho pa : ByteArray} {po : Int} (h : urlB sc ho pa po = true) : 0 < (urlT sc ho pa po).size := by
  obtain ⟨_, _, _, _, _⟩ := urlB_parts h
  have h' := h
  unfold urlB pathB at h'
  simp only [Bool.and_eq_true, decide_eq_true_eq] at h'
  rw [urlT, if_pos h, ByteArray.size_append]
  omega
/-- whose text it is -/
theorem readOk_back {sc ho pa : ByteArray} {po : Int} (h : urlB sc ho pa po = true) : readOk (urlT sc ho pa po) = true := by
  unfold readOk
  rw [read_back sc ho pa po h]
  simp only [BEq.rfl, Bool.and_true]
  have := urlT_pos h
  cases hl : (urlT sc ho pa po).toList with
  | nil =>
    have hz : (urlT sc ho pa po).size = (urlT sc ho pa po).toList.length := by rw [ByteArray.toList_eq]; rfl
    rw [hl] at hz
    have hz : (urlT sc ho pa po).size = 0 := hz
    omega
  | cons => rfl
/-- a text that is told by a url as it stands tells just this one -/
theorem readOk_of {t sc ho pa : ByteArray} {po : Int} (ht : 0 < t.size) (h : urlT sc ho pa po = t) : readOk t = true ∧ readU t = (sc, ho, po, pa) := by
  have hr : urlB sc ho pa po = true := by
    cases hu : urlB sc ho pa po with
    | true => rfl
    | false =>
      rw [urlT, if_neg (by rw [hu]; decide)] at h
      subst h
      exact absurd ht (by decide)
  subst h
  exact ⟨readOk_back hr, read_back sc ho pa po hr⟩
theorem text_of_readOk {t : ByteArray} (h : readOk t = true) : urlT (readU t).1 (readU t).2.1 (readU t).2.2.2 (readU t).2.2.1 = t := by
  unfold readOk at h
  rw [Bool.and_eq_true, beq_iff_eq] at h
  apply ByteArray.ext
  have h2 := h.2
  rw [ByteArray.toList_eq, ByteArray.toList_eq] at h2
  exact Array.toList_inj.mp h2
end Go.Proofs.YtknjkakokcblnaaDoor
