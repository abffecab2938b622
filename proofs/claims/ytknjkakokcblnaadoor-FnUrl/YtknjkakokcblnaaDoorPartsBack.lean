/- Where the parts of a right url's text end: plain facts, no walk. -/
import Derived.Test.YtknjkakokcblnaaDoorUrlBack
import Derived.Test.YtknjkakokcblnaaDoorImplUrl
namespace Go.Proofs.YtknjkakokcblnaaDoor

/-- of a text of three parts, the middle one without a stop, the last one beginning with one: the first stop is where the last begins -/
theorem stop_at (Q : Nat → Bool) (P M R t : ByteArray) (ht : t = P ++ M ++ R) (hM : ∀ i (h : i < M.size), Q M[i].toNat = false) (hR : 0 < R.size) (h0 : Q R[0].toNat = true) (j : Nat) (h1 : P.size ≤ j) (h2 : j ≤ t.size)
    (hn : ∀ i (h : i < t.size), P.size ≤ i → i < j → Q t[i].toNat = false) (hj : ∀ h : j < t.size, Q t[j].toNat = true) : j = P.size + M.size ∧ j < t.size := by
  subst ht
  have hz : (P ++ M ++ R).size = P.size + M.size + R.size := by rw [ByteArray.size_append, ByteArray.size_append]
  have hz2 : (P ++ M).size = P.size + M.size := ByteArray.size_append
  have hend : Q (P ++ M ++ R)[P.size + M.size].toNat = true := by
    rw [ByteArray.getElem_append_right (by omega)]
    have : P.size + M.size - (P ++ M).size = 0 := by omega
    simp only [this]
    exact h0
  have hle : ¬ P.size + M.size < j := by
    intro h
    have := hn (P.size + M.size) (by omega) (by omega) h
    rw [hend] at this; cases this
  have hge : ¬ j < P.size + M.size := by
    intro h
    have hjt : j < (P ++ M ++ R).size := by omega
    have e := hj hjt
    rw [ByteArray.getElem_append_left (by omega), ByteArray.getElem_append_right h1] at e
    rw [hM (j - P.size) (by omega)] at e; cases e
  exact ⟨by omega, by omega⟩
theorem cut_mid (P M R : ByteArray) : (P ++ M ++ R).extract P.size (P.size + M.size) = M := by
  have h := ByteArray.extract_append_size_add (a := P) (b := M ++ R) (i := 0) (j := M.size)
  rw [Nat.add_zero] at h
  rw [ByteArray.append_assoc, h]
  exact ByteArray.extract_append_eq_left rfl

/-- these are the parts of the text, if it is one of a right url -/
def IsParts (t sc ho : ByteArray) (po : Int) (pa : ByteArray) : Prop :=
  ∀ sc' ho' pa' po', urlB sc' ho' pa' po' = true → urlT sc' ho' pa' po' = t → sc = sc' ∧ ho = ho' ∧ po = po' ∧ pa = pa'
def colC (c : Nat) : Bool := c == 58
def endC (c : Nat) : Bool := (c == 58) || (c == 47)
def nodC (c : Nat) : Bool := !digC c
theorem lay_of {sc ho pa t : ByteArray} {po : Int} (h : urlB sc ho pa po = true) (ht : urlT sc ho pa po = t) :
    (∀ i (h : i < sc.size), colC sc[i].toNat = false) ∧ (∀ i (h : i < ho.size), endC ho[i].toNat = false) ∧ schemeB sc = true ∧ 1 ≤ po ∧ po ≤ 65535 ∧
    ∃ h : 0 < pa.size, pa[0].toNat = 47 ∧ (po = usualP sc ∧ t = sc ++ ⟨#[58, 47, 47]⟩ ++ ho ++ pa ∨ ¬ po = usualP sc ∧ t = sc ++ ⟨#[58, 47, 47]⟩ ++ ho ++ ⟨#[58]⟩ ++ decB po ++ pa) := by
  have h' := h
  unfold urlB placeB at h'
  simp only [Bool.and_eq_true, decide_eq_true_eq] at h'
  obtain ⟨⟨⟨h1, h2⟩, h3, h4⟩, h5⟩ := h'
  have hs := schemeB_bytes h1
  have hb := hostB_bytes h2
  unfold pathB at h5
  rw [decide_eq_true_iff] at h5
  obtain ⟨p1, _, p2, _⟩ := h5
  refine ⟨?_, ?_, h1, h3, h4, by omega, p2 (by omega), ?_⟩
  · intro i hi
    unfold colC
    rw [beq_eq_false_iff_ne]
    intro e
    exact hs i hi (UInt8.toNat_inj.mp e)
  · intro i hi
    have := hb i hi
    unfold endC
    rw [Bool.or_eq_false_iff, beq_eq_false_iff_ne, beq_eq_false_iff_ne]
    omega
  · rw [urlT, if_pos h, placeT] at ht
    by_cases hu : po = usualP sc
    · rw [if_pos hu] at ht
      exact .inl ⟨hu, ht.symm⟩
    · rw [if_neg hu] at ht
      exact .inr ⟨hu, ht.symm⟩
/-- the text behind the scheme -/
theorem lay_tail {sc ho pa t : ByteArray} {po : Int} (h : urlB sc ho pa po = true) (ht : urlT sc ho pa po = t) : ∃ R, t = sc ++ ⟨#[58, 47, 47]⟩ ++ R := by
  obtain ⟨_, _, _, _, _, _, _, ⟨_, e⟩ | ⟨_, e⟩⟩ := lay_of h ht
  · exact ⟨ho ++ pa, by rw [e]; simp only [ByteArray.append_assoc]⟩
  · exact ⟨ho ++ ⟨#[58]⟩ ++ decB po ++ pa, by rw [e]; simp only [ByteArray.append_assoc]⟩
/-- the text behind the host -/
theorem lay_rest {sc ho pa t : ByteArray} {po : Int} (h : urlB sc ho pa po = true) (ht : urlT sc ho pa po = t) : ∃ R, ∃ h : 0 < R.size, t = (sc ++ ⟨#[58, 47, 47]⟩) ++ ho ++ R ∧ endC R[0].toNat = true ∧ (po = usualP sc ∧ R[0].toNat = 47 ∧ R = pa ∨ ¬ po = usualP sc ∧ R[0].toNat = 58 ∧ R = ⟨#[58]⟩ ++ decB po ++ pa) := by
  obtain ⟨_, _, _, _, _, hp, h47, ⟨hu, e⟩ | ⟨hu, e⟩⟩ := lay_of h ht
  · exact ⟨pa, hp, e, by rw [h47]; rfl, .inl ⟨hu, h47, rfl⟩⟩
  · have hz : 0 < ((⟨#[58]⟩ : ByteArray) ++ decB po ++ pa).size := by rw [ByteArray.size_append, ByteArray.size_append]; show 0 < 1 + _ + _; omega
    have h0 : ((⟨#[58]⟩ : ByteArray) ++ decB po ++ pa)[0].toNat = 58 := by
      rw [ByteArray.getElem_append_left (by rw [ByteArray.size_append]; show 0 < 1 + _; omega), ByteArray.getElem_append_left (by decide)]; rfl
    exact ⟨⟨#[58]⟩ ++ decB po ++ pa, hz, by rw [e]; simp only [ByteArray.append_assoc], by rw [h0]; rfl, .inr ⟨hu, h0, rfl⟩⟩

/-- where the scheme ends -/
theorem scheme_end {t sc ho pa : ByteArray} {po : Int} (h : urlB sc ho pa po = true) (ht : urlT sc ho pa po = t) (k : Nat) (hk : k ≤ t.size) (hn : ∀ i (h : i < t.size), i < k → colC t[i].toNat = false) (hj : ∀ h : k < t.size, colC t[k].toNat = true) :
    k = sc.size ∧ k < t.size ∧ t.extract 0 k = sc := by
  obtain ⟨R, e⟩ := lay_tail h ht
  obtain ⟨hs, _⟩ := lay_of h ht
  have e2 : t = ByteArray.empty ++ sc ++ (⟨#[58, 47, 47]⟩ ++ R) := by rw [e, ByteArray.empty_append, ByteArray.append_assoc]
  have hz : 0 < ((⟨#[58, 47, 47]⟩ : ByteArray) ++ R).size := by rw [ByteArray.size_append]; show 0 < 3 + _; omega
  have := stop_at colC ByteArray.empty sc (⟨#[58, 47, 47]⟩ ++ R) t e2 hs hz (by rw [ByteArray.getElem_append_left (by decide)]; rfl) k (Nat.zero_le _) hk (fun i h _ hi => hn i h hi) hj
  have hk2 : k = sc.size := by have := this.1; show k = _; rw [this]; exact Nat.zero_add _
  refine ⟨hk2, this.2, ?_⟩
  rw [e, ByteArray.append_assoc]
  exact head_of _ _ _ hk2
/-- where the host ends -/
theorem host_end {t sc ho pa : ByteArray} {po : Int} (h : urlB sc ho pa po = true) (ht : urlT sc ho pa po = t) (k j : Nat) (hk : k = sc.size) (h1 : k + 3 ≤ j) (h2 : j ≤ t.size) (hn : ∀ i (h : i < t.size), k + 3 ≤ i → i < j → endC t[i].toNat = false) (hj : ∀ h : j < t.size, endC t[j].toNat = true) :
    j = k + 3 + ho.size ∧ j < t.size ∧ t.extract (k + 3) j = ho := by
  obtain ⟨R, hR, e, h0, _⟩ := lay_rest h ht
  obtain ⟨_, hh, _⟩ := lay_of h ht
  have hz : (sc ++ (⟨#[58, 47, 47]⟩ : ByteArray)).size = k + 3 := by rw [ByteArray.size_append, hk]; rfl
  have := stop_at endC (sc ++ ⟨#[58, 47, 47]⟩) ho R t e hh hR h0 j (by omega) h2 (fun i h a b => hn i h (by omega) b) hj
  refine ⟨by omega, this.2, ?_⟩
  rw [e, show j = (sc ++ (⟨#[58, 47, 47]⟩ : ByteArray)).size + ho.size by omega, ← hz]
  exact cut_mid _ _ _

theorem parts_none {t : ByteArray} (hn : ∀ i (h : i < t.size), colC t[i].toNat = false) (a b c : ByteArray) (d : Int) : IsParts t a b d c := by
  intro sc ho pa po h ht
  have := scheme_end h ht t.size (Nat.le_refl _) (fun i h _ => hn i h) (fun h => absurd h (by omega))
  omega
theorem parts_nocut {t : ByteArray} {k : Nat} (hk : k < t.size) (hn : ∀ i (h : i < t.size), i < k → colC t[i].toNat = false) (hc : colC t[k].toNat = true) (hp : Lib.hasPrefix (t.extract k t.size).data.toList [58, 47, 47] = false) (a b c : ByteArray) (d : Int) : IsParts t a b d c := by
  intro sc ho pa po h ht
  have h1 := scheme_end h ht k (by omega) hn (fun _ => hc)
  obtain ⟨R, e⟩ := lay_tail h ht
  exfalso
  have e2 : t.extract k t.size = ⟨#[58, 47, 47]⟩ ++ R := by
    rw [e, ByteArray.append_assoc]
    exact tail_of _ _ _ h1.1
  rw [e2] at hp
  have : Lib.hasPrefix ((⟨#[58, 47, 47]⟩ : ByteArray) ++ R).data.toList [58, 47, 47] = true := by
    unfold Lib.hasPrefix
    simp
  rw [this] at hp; cases hp
theorem parts_nohost {t : ByteArray} {k : Nat} (hk : k + 3 ≤ t.size) (hn : ∀ i (h : i < t.size), i < k → colC t[i].toNat = false) (hc : ∀ h : k < t.size, colC t[k].toNat = true) (hm : ∀ i (h : i < t.size), k + 3 ≤ i → endC t[i].toNat = false) (a b c : ByteArray) (d : Int) : IsParts t a b d c := by
  intro sc ho pa po h ht
  have h1 := scheme_end h ht k (by omega) hn hc
  have h2 := host_end h ht k t.size h1.1 (by omega) (Nat.le_refl _) (fun i h a _ => hm i h a) (fun h => absurd h (by omega))
  omega
theorem parts_plain {t : ByteArray} {k j : Nat} (hj : j < t.size) (hkj : k + 3 ≤ j) (hn : ∀ i (h : i < t.size), i < k → colC t[i].toNat = false) (hc : ∀ h : k < t.size, colC t[k].toNat = true) (hm : ∀ i (h : i < t.size), k + 3 ≤ i → i < j → endC t[i].toNat = false) (he : t[j].toNat = 47) :
    IsParts t (t.extract 0 k) (t.extract (k + 3) j) (ownP (t.extract 0 k)) (t.extract j t.size) := by
  intro sc ho pa po h ht
  have h1 := scheme_end h ht k (by omega) hn hc
  have h2 := host_end h ht k j h1.1 hkj (by omega) hm (fun _ => by rw [he]; rfl)
  obtain ⟨_, _, hsc, _⟩ := lay_of h ht
  obtain ⟨R, hR, e, h0, hr⟩ := lay_rest h ht
  have hz : (sc ++ (⟨#[58, 47, 47]⟩ : ByteArray) ++ ho).size = j := by rw [ByteArray.size_append, ByteArray.size_append]; show sc.size + 3 + _ = _; omega
  have hb : t[j].toNat = R[0].toNat := by
    simp only [e]
    rw [ByteArray.getElem_append_right (by omega)]
    have : j - (sc ++ (⟨#[58, 47, 47]⟩ : ByteArray) ++ ho).size = 0 := by omega
    simp only [this]
  rcases hr with ⟨hu, _, hR2⟩ | ⟨_, h58, _⟩
  · refine ⟨h1.2.2, h2.2.2, ?_, ?_⟩
    · rw [h1.2.2, ownP_usual hsc]; exact hu.symm
    · rw [← hR2, e]; exact tail_of _ _ _ hz.symm
  · rw [he, h58] at hb; cases hb
theorem parts_port {t : ByteArray} {k j n : Nat} {p q : Int} (hj : j < t.size) (hkj : k + 3 ≤ j) (hn : ∀ i (h : i < t.size), i < k → colC t[i].toNat = false) (hc : ∀ h : k < t.size, colC t[k].toNat = true) (hm : ∀ i (h : i < t.size), k + 3 ≤ i → i < j → endC t[i].toNat = false) (he : t[j].toNat = 58)
    (h1n : j + 1 ≤ n) (h2n : n ≤ t.size) (hd : ∀ i (h : i < t.size), j + 1 ≤ i → i < n → nodC t[i].toNat = false) (hs : ∀ h : n < t.size, nodC t[n].toNat = true)
    (hp : p = numL ((t.data.toList.drop (j + 1)).take (n - (j + 1))) + q * 18446744073709551616) (hp1 : -9223372036854775808 ≤ p) (hp2 : p ≤ 9223372036854775807) :
    IsParts t (t.extract 0 k) (t.extract (k + 3) j) p (t.extract n t.size) := by
  intro sc ho pa po h ht
  have h1 := scheme_end h ht k (by omega) hn hc
  have h2 := host_end h ht k j h1.1 hkj (by omega) hm (fun _ => by rw [he]; rfl)
  obtain ⟨_, _, _, po1, po2, hpa, h47, _⟩ := lay_of h ht
  obtain ⟨R, hR, e, h0, hr⟩ := lay_rest h ht
  have hz : (sc ++ (⟨#[58, 47, 47]⟩ : ByteArray) ++ ho).size = j := by rw [ByteArray.size_append, ByteArray.size_append]; show sc.size + 3 + _ = _; omega
  have hb : t[j].toNat = R[0].toNat := by
    simp only [e]
    rw [ByteArray.getElem_append_right (by omega)]
    have : j - (sc ++ (⟨#[58, 47, 47]⟩ : ByteArray) ++ ho).size = 0 := by omega
    simp only [this]
  rcases hr with ⟨_, h47', _⟩ | ⟨_, _, hR2⟩
  · rw [he, h47'] at hb; cases hb
  · have e2 : t = (sc ++ ⟨#[58, 47, 47]⟩ ++ ho ++ ⟨#[58]⟩) ++ decB po ++ pa := by rw [e, hR2]; simp only [ByteArray.append_assoc]
    have hz2 : (sc ++ (⟨#[58, 47, 47]⟩ : ByteArray) ++ ho ++ (⟨#[58]⟩ : ByteArray)).size = j + 1 := by rw [ByteArray.size_append, hz]; rfl
    have h3 := stop_at nodC _ (decB po) pa t e2 (fun i hi => by
      have := decB_dig po po1 i hi
      unfold nodC; rw [digC_yes this]; rfl) hpa (by rw [h47]; rfl) n (by omega) h2n (fun i h a b => hd i h (by omega) b) hs
    have hnum : (numL ((t.data.toList.drop (j + 1)).take (n - (j + 1))) : Int) = po := by
      have e3 : (t.data.toList.drop (j + 1)).take (n - (j + 1)) = (decB po).data.toList := by
        have := cut_mid (sc ++ (⟨#[58, 47, 47]⟩ : ByteArray) ++ ho ++ (⟨#[58]⟩ : ByteArray)) (decB po) pa
        rw [← e2, hz2, show j + 1 + (decB po).size = n by omega] at this
        rw [← this]
        simp
      have e4 : (decB po).data.toList = decA po.natAbs := by rw [decB, if_neg (by omega), if_neg (by omega)]
      rw [e3, e4, decA_num]; omega
    rw [hnum] at hp
    refine ⟨h1.2.2, h2.2.2, by omega, ?_⟩
    have hz3 : (sc ++ (⟨#[58, 47, 47]⟩ : ByteArray) ++ ho ++ (⟨#[58]⟩ : ByteArray) ++ decB po).size = n := by rw [ByteArray.size_append, hz2]; omega
    rw [e2]; exact tail_of _ _ _ hz3.symm
end Go.Proofs.YtknjkakokcblnaaDoor
