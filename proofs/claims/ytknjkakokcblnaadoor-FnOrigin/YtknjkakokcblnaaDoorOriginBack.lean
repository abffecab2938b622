/- Right origins are the same just if their texts are: plain facts, no walk. -/
import Derived.Test.YtknjkakokcblnaaDoorUrlBack
import Derived.Test.YtknjkakokcblnaaDoorSpecOrigin2
namespace Go.Proofs.YtknjkakokcblnaaDoor

theorem text_ext {a b : ByteArray} (h : a.toList = b.toList) : a = b := by
  apply ByteArray.ext
  rw [ByteArray.toList_eq, ByteArray.toList_eq] at h
  exact Array.toList_inj.mp h
theorem sameF_iff (sc ho : ByteArray) (po no : Int) (sc2 ho2 : ByteArray) (po2 no2 : Int) : sameF sc ho po no sc2 ho2 po2 no2 = true ↔ (sc = sc2 ∧ ho = ho2 ∧ po = po2 ∧ no = no2) := by
  unfold sameF
  simp only [Bool.and_eq_true, beq_iff_eq]
  constructor
  · rintro ⟨⟨⟨h1, h2⟩, h3⟩, h4⟩
    exact ⟨text_ext h1, text_ext h2, h3, h4⟩
  · rintro ⟨rfl, rfl, rfl, rfl⟩
    exact ⟨⟨⟨rfl, rfl⟩, rfl⟩, rfl⟩
theorem slash_right : pathB ⟨#[47]⟩ = true := by
  refine pathB_true (by decide) (by decide) (fun _ => rfl) ?_
  intro i h
  have : i < 1 := h
  have : i = 0 := by omega
  subst this
  rfl
theorem placeT_inj {sc ho sc2 ho2 : ByteArray} {po po2 : Int} (h1 : placeB sc ho po = true) (h2 : placeB sc2 ho2 po2 = true) (h : placeT sc ho po = placeT sc2 ho2 po2) : sc = sc2 ∧ ho = ho2 ∧ po = po2 := by
  have u1 : urlB sc ho ⟨#[47]⟩ po = true := by rw [urlB, h1, slash_right]; rfl
  have u2 : urlB sc2 ho2 ⟨#[47]⟩ po2 = true := by rw [urlB, h2, slash_right]; rfl
  have e : urlT sc ho ⟨#[47]⟩ po = urlT sc2 ho2 ⟨#[47]⟩ po2 := by rw [urlT, if_pos u1, urlT, if_pos u2, h]
  have r1 := read_back _ _ _ _ u1
  rw [e, read_back _ _ _ _ u2] at r1
  simp only [Prod.mk.injEq] at r1
  exact ⟨r1.1.symm, r1.2.1.symm, r1.2.2.1.symm⟩
theorem decB_inj {a b : Int} (h1 : 1 ≤ a) (h2 : 1 ≤ b) (h : decB a = decB b) : a = b := by
  have ha : decB a = ⟨(decA a.natAbs).toArray⟩ := by rw [decB, if_neg (by omega), if_neg (by omega)]
  have hb : decB b = ⟨(decA b.natAbs).toArray⟩ := by rw [decB, if_neg (by omega), if_neg (by omega)]
  rw [ha, hb] at h
  injection h with h
  have h : decA a.natAbs = decA b.natAbs := by simpa using h
  have := congrArg numL h
  rw [decA_num, decA_num] at this
  omega
theorem placeT_first {sc ho : ByteArray} {po : Int} (h : placeB sc ho po = true) (x : ByteArray) : placeT sc ho po ≠ ⟨#[110, 117, 108, 108, 35]⟩ ++ x := by
  intro e
  unfold placeB at h
  simp only [Bool.and_eq_true] at h
  have hs := h.1.1
  have hl : ∃ r, (placeT sc ho po).data.toList = sc.data.toList ++ r := by
    unfold placeT
    split
    · exact ⟨(⟨#[58, 47, 47]⟩ ++ ho : ByteArray).data.toList, by rw [ByteArray.append_assoc, ByteArray.data_append]; simp⟩
    · exact ⟨(⟨#[58, 47, 47]⟩ ++ ho ++ ⟨#[58]⟩ ++ decB po : ByteArray).data.toList, by simp only [ByteArray.append_assoc]; rw [ByteArray.data_append]; simp⟩
  obtain ⟨r, hr⟩ := hl
  rw [e, ByteArray.data_append] at hr
  simp only [Array.toList_append] at hr
  unfold schemeB at hs
  rw [Bool.or_eq_true, beq_iff_eq, beq_iff_eq, ByteArray.toList_eq] at hs
  rcases hs with hs | hs
  · rw [hs] at hr
    exact absurd (List.cons.inj hr).1 (by decide)
  · rw [hs] at hr
    exact absurd (List.cons.inj hr).1 (by decide)
theorem nonce_parts {sc ho : ByteArray} {po no : Int} (h : originB sc ho po no = true) (h0 : ¬ no = 0) : 1 ≤ no ∧ sc = ⟨#[]⟩ ∧ ho = ⟨#[]⟩ ∧ po = 0 := by
  rw [originB, if_neg h0] at h
  simp only [Bool.and_eq_true, decide_eq_true_eq, beq_iff_eq, List.isEmpty_iff] at h
  obtain ⟨⟨⟨⟨h1, h2⟩, h3⟩, h4⟩, h5⟩ := h
  have e : (⟨#[]⟩ : ByteArray).toList = [] := by rw [ByteArray.toList_eq]
  exact ⟨h1, text_ext (by rw [h3, e]), text_ext (by rw [h4, e]), h5⟩
/-- the texts of right origins tell them apart -/
theorem originT_inj {sc ho : ByteArray} {po no : Int} {sc2 ho2 : ByteArray} {po2 no2 : Int} (h1 : originB sc ho po no = true) (h2 : originB sc2 ho2 po2 no2 = true) (h : originT sc ho po no = originT sc2 ho2 po2 no2) : sc = sc2 ∧ ho = ho2 ∧ po = po2 ∧ no = no2 := by
  rw [originT, if_pos h1, originT, if_pos h2] at h
  by_cases c1 : no = 0
  · have p1 : placeB sc ho po = true := by rw [originB, if_pos c1] at h1; exact h1
    rw [if_pos c1] at h
    by_cases c2 : no2 = 0
    · have p2 : placeB sc2 ho2 po2 = true := by rw [originB, if_pos c2] at h2; exact h2
      rw [if_pos c2] at h
      obtain ⟨e1, e2, e3⟩ := placeT_inj p1 p2 h
      exact ⟨e1, e2, e3, by omega⟩
    · rw [if_neg c2] at h
      exact absurd h (placeT_first p1 _)
  · rw [if_neg c1] at h
    obtain ⟨n1, rfl, rfl, rfl⟩ := nonce_parts h1 c1
    by_cases c2 : no2 = 0
    · have p2 : placeB sc2 ho2 po2 = true := by rw [originB, if_pos c2] at h2; exact h2
      rw [if_pos c2] at h
      exact absurd h.symm (placeT_first p2 _)
    · rw [if_neg c2] at h
      obtain ⟨n2, rfl, rfl, rfl⟩ := nonce_parts h2 c2
      have h := (ByteArray.append_right_inj _).mp h
      exact ⟨rfl, rfl, rfl, decB_inj n1 n2 h⟩
/-- right origins: the same just if their texts are -/
theorem sameO_text {sc ho : ByteArray} {po no : Int} {sc2 ho2 : ByteArray} {po2 no2 : Int} (h1 : originB sc ho po no = true) (h2 : originB sc2 ho2 po2 no2 = true) :
    sameO sc ho po no sc2 ho2 po2 no2 = ((originT sc ho po no).toList == (originT sc2 ho2 po2 no2).toList) := by
  have hs : sameO sc ho po no sc2 ho2 po2 no2 = sameF sc ho po no sc2 ho2 po2 no2 := by rw [sameO, h1, h2]; rfl
  rw [hs, Bool.eq_iff_iff, sameF_iff, beq_iff_eq]
  constructor
  · rintro ⟨rfl, rfl, rfl, rfl⟩; rfl
  · intro h; exact originT_inj h1 h2 (text_ext h)
/-- the origin of a right url is right, and does not ask for its path -/
theorem origin_of_right {sc ho pa : ByteArray} {po : Int} (h : urlB sc ho pa po = true) : originB sc ho po 0 = true := by
  rw [originB, if_pos rfl]
  unfold urlB at h
  rw [Bool.and_eq_true] at h
  exact h.1
theorem else_right : pathB ⟨#[47, 101, 108, 115, 101]⟩ = true := by
  refine pathB_true (by decide) (by decide) (fun _ => rfl) ?_
  intro i h
  have : i < 5 := h
  rcases i with _ | _ | _ | _ | _ | i
  · rfl
  · rfl
  · rfl
  · rfl
  · rfl
  · omega
theorem url_else {sc ho pa : ByteArray} {po : Int} (h : urlB sc ho pa po = true) : urlB sc ho ⟨#[47, 101, 108, 115, 101]⟩ po = true := by
  unfold urlB at h ⊢
  rw [Bool.and_eq_true] at h
  rw [h.1, else_right]; rfl
end Go.Proofs.YtknjkakokcblnaaDoor
