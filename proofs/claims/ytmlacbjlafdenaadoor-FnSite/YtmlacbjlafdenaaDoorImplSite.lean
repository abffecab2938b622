/- The walks of the program's SiteOf and SameSite. -/
import Derived.Test.YtmlacbjlafdenaaDoorImplSuffix
import Derived.Test.YtmlacbjlafdenaaDoorImplUrl
import Derived.Test.YtmlacbjlafdenaaDoorSpecSite
namespace Go.Proofs.YtmlacbjlafdenaaDoor
open Go.RowKit

set_option maxRecDepth 10000 in
set_option maxHeartbeats 1000000 in
theorem siteOf_any (v : Value) (n B : Nat) (f : Nat → ByteArray) (sc ho pa : ByteArray) (po : Int) (w : World) (hG : MaxI w) (hs : SliceS w B v n f) (l1 : n ≤ 1048576) (hf : ∀ i, i < n → (f i).size ≤ 1048576) (hh : ho.size ≤ 1048576) :
    Calls Tryd.prog 43 #[v, urlV sc ho pa po] w fun e w' => e = .returned (.string (siteOf n f sc ho pa po)) ∧ Below w.heap.size w w' := by
  have HSl : Hid (SliceS w B v n f) := hs
  have HG : Hid (MaxI w) := hG
  have B0 : Hid (∀ t : TypeId, Below w.heap.size w (w.alloc (.cells #[.string sc, .string ho, .int .i64 po, .string pa] t))) := fun t => (Below.refl _ _).alloc (Nat.le_refl _) _
  have KR : Hid (∀ W, MaxI W → SliceS W B v n f → Calls Tryd.prog 79 #[v] W fun e w' => e = .returned (.bool (rulesB n f)) ∧ Below W.heap.size W w') := fun W a b => rulesRight_any v n B f W a b l1 hf
  have KU : Hid (∀ W, MaxI W → Calls Tryd.prog 21 #[.agg #[.string sc, .string ho, .int .i64 po, .string pa]] W fun e w' => e = .returned (.bool (urlB sc ho pa po)) ∧ Below W.heap.size W w') := fun W a => urlRight_any sc ho pa po W a hh
  have KT : Hid (∀ W, MaxI W → SliceS W B v n f → Calls Tryd.prog 80 #[v, .string ho] W fun e w' => e = .returned (.agg #[.string (sufOf n f ho).1, .string (sufOf n f ho).2]) ∧ Below W.heap.size W w') := fun W a b => suffixOf_any v n B f ho W a b l1 hf hh
  have HN : Hid (¬ (rulesB n f = true ∧ urlB sc ho pa po = true) → siteOf n f sc ho pa po = ⟨#[]⟩) := fun h => by rw [siteOf, if_neg h]
  have HY : Hid (rulesB n f = true → urlB sc ho pa po = true → siteOf n f sc ho pa po = sc ++ ⟨#[58, 47, 47]⟩ ++ (if (sufOf n f ho).2.toList.isEmpty = true then ho else (sufOf n f ho).2) ∧ sc.size ≤ 5 ∧ ho.size ≤ 100 ∧ (sufOf n f ho).2.size ≤ 20000) := fun a b => by
    have hp := urlB_parts b
    have e : sufOf n f ho = (sufS n f ho, sufD n f ho) := by rw [sufOf, if_pos ⟨a, hostB_url b⟩]
    rw [siteOf, if_pos ⟨a, b⟩, e]
    exact ⟨rfl, hp.1, hp.2.1, sufD_size n f hp.2.1⟩
  clear hf hs hG
  unfold urlV
  have hfd : ∀ (a b : ByteArray) (W : World), Sem.run Tryd.prog (Instr.field 62 (.agg #[.string a, .string b]) 1) W = .ok (.string b) W := field_domain
  generalize siteOf n f sc ho pa po = T at *
  generalize (sufOf n f ho).2 = D at *
  generalize (sufOf n f ho).1 = S at *
  generalize rulesB n f = rb at *
  generalize urlB sc ho pa po = ub at *
  cases rb with
  | false =>
    have HZ : Hid (T = ⟨#[]⟩) := HN.out (fun a => by cases a.1)
    go_enter Tryd.func43, Tryd.ntmps43
    go_wp2_with fail
    refine (KR.out _ (HG.out.on (B0.out _)) (HSl.out.below (B0.out _))).mono ?_
    rintro e w1 ⟨rfl, hb1⟩
    have B1 : Hid (Below w.heap.size w w1) := (B0.out _).trans (hb1.mono (by simp))
    clear hb1
    go_wp2
    go_ret
    exact ⟨ret_text HZ.out.symm, B1.out⟩
  | true =>
    have HN2 : Hid (ub = false → T = ⟨#[]⟩) := fun h => HN.out (fun a => by rw [h] at a; cases a.2)
    have HY2 : Hid _ := HY.out rfl
    clear HN HY
    go_enter Tryd.func43, Tryd.ntmps43
    go_wp2_with fail
    refine (KR.out _ (HG.out.on (B0.out _)) (HSl.out.below (B0.out _))).mono ?_
    rintro e w1 ⟨rfl, hb1⟩
    have c0 : w1.cell? ⟨w.heap.size, 0, none⟩ = some (.string sc) := by rw [(bcell hb1).1 _ _ (by simp)]; simp
    have c1 : w1.cell? ⟨w.heap.size, 1, none⟩ = some (.string ho) := by rw [(bcell hb1).1 _ _ (by simp)]; simp
    have c2 : w1.cell? ⟨w.heap.size, 2, none⟩ = some (.int .i64 po) := by rw [(bcell hb1).1 _ _ (by simp)]; simp
    have c3 : w1.cell? ⟨w.heap.size, 3, none⟩ = some (.string pa) := by rw [(bcell hb1).1 _ _ (by simp)]; simp
    have hz1 : w.heap.size < w1.heap.size := by have := hb1.size; simp at this; omega
    have B1 : Hid (Below w.heap.size w w1) := (B0.out _).trans (hb1.mono (by simp))
    clear hb1
    go_wp2_with fail
    refine (KU.out _ (HG.out.on B1.out)).mono ?_
    rintro e w2 ⟨rfl, hb2⟩
    have B2 : Hid (Below w.heap.size w w2) := B1.out.trans (hb2.mono B1.out.size)
    cases ub with
    | false =>
      have HZ : Hid (T = ⟨#[]⟩) := HN2.out rfl
      clear hb2
      go_wp2
      go_ret
      exact ⟨ret_text HZ.out.symm, B2.out⟩
    | true =>
      obtain ⟨hT, h5, h100, hD⟩ := HY2.out rfl
      have ET : Hid (T = sc ++ ⟨#[58, 47, 47]⟩ ++ (if D.toList.isEmpty = true then ho else D)) := hT
      have h3 : (sc ++ ⟨#[58, 47, 47]⟩ : ByteArray).size ≤ 8 := by
        have e : (⟨#[58, 47, 47]⟩ : ByteArray).size = 3 := rfl
        rw [ByteArray.size_append, e]; omega
      have d0 : w2.cell? ⟨w.heap.size, 0, none⟩ = some (.string sc) := by rw [(bcell hb2).1 _ _ hz1]; exact c0
      have d1 : w2.cell? ⟨w.heap.size, 1, none⟩ = some (.string ho) := by rw [(bcell hb2).1 _ _ hz1]; exact c1
      have hz2 : w.heap.size < w2.heap.size := Nat.lt_of_lt_of_le hz1 hb2.size
      clear hb2 c0 c1 c2 c3 HN2 HY2 hT
      go_wp2_with fail
      refine (KT.out _ (HG.out.on B2.out) (HSl.out.below B2.out)).mono ?_
      rintro e w3 ⟨rfl, hb3⟩
      have f0 : w3.cell? ⟨w.heap.size, 0, none⟩ = some (.string sc) := by rw [(bcell hb3).1 _ _ hz2]; exact d0
      have f1 : w3.cell? ⟨w.heap.size, 1, none⟩ = some (.string ho) := by rw [(bcell hb3).1 _ _ hz2]; exact d1
      have B3 : Hid (Below w.heap.size w w3) := B2.out.trans (hb3.mono B2.out.size)
      clear hb3 d0 d1
      cases hd : D.toList.isEmpty with
      | true =>
        have HT : Hid (T = sc ++ ⟨#[58, 47, 47]⟩ ++ ho) := by show _ = _; rw [ET.out, if_pos hd]
        go_wp2
        go_ret
        exact ⟨ret_text HT.out.symm, B3.out⟩
      | false =>
        have HT : Hid (T = sc ++ ⟨#[58, 47, 47]⟩ ++ D) := by show _ = _; rw [ET.out, if_neg (by rw [hd]; decide)]
        go_wp2
        go_ret
        exact ⟨ret_text HT.out.symm, B3.out⟩

theorem siteT_ne (n : Nat) (f : Nat → ByteArray) (sc ho : ByteArray) : (siteT n f sc ho).toList.isEmpty = false := by
  rw [Lib.toList_data, List.isEmpty_eq_false_iff]
  intro e
  have h : (siteT n f sc ho).size = 0 := by rw [Lib.size_eq, e]; rfl
  unfold siteT at h
  have e3 : (⟨#[58, 47, 47]⟩ : ByteArray).size = 3 := rfl
  rw [ByteArray.size_append, ByteArray.size_append, e3] at h
  omega
theorem sameS_site (n : Nat) (f : Nat → ByteArray) (sc ho pa : ByteArray) (po : Int) (sc2 ho2 pa2 : ByteArray) (po2 : Int) :
    sameS n f sc ho pa po sc2 ho2 pa2 po2 = (!(siteOf n f sc ho pa po).toList.isEmpty && ((siteOf n f sc ho pa po).toList == (siteOf n f sc2 ho2 pa2 po2).toList)) := by
  unfold sameS siteOf
  cases rulesB n f <;> cases urlB sc ho pa po <;> cases urlB sc2 ho2 pa2 po2 <;> simp [siteT_ne]

set_option maxRecDepth 10000 in
set_option maxHeartbeats 1000000 in
theorem sameSite_any (v : Value) (n B : Nat) (f : Nat → ByteArray) (sc ho pa : ByteArray) (po : Int) (sc2 ho2 pa2 : ByteArray) (po2 : Int) (w : World) (hG : MaxI w) (hs : SliceS w B v n f) (l1 : n ≤ 1048576) (hf : ∀ i, i < n → (f i).size ≤ 1048576) (hh : ho.size ≤ 1048576) (hh2 : ho2.size ≤ 1048576) :
    Calls Tryd.prog 41 #[v, urlV sc ho pa po, urlV sc2 ho2 pa2 po2] w fun e w' => e = .returned (.bool (sameS n f sc ho pa po sc2 ho2 pa2 po2)) ∧ Below w.heap.size w w' := by
  have HSl : Hid (SliceS w B v n f) := hs
  have HG : Hid (MaxI w) := hG
  have B0 : Hid (∀ t t2 : TypeId, Below w.heap.size w ((w.alloc (.cells #[.string sc, .string ho, .int .i64 po, .string pa] t)).alloc (.cells #[.string sc2, .string ho2, .int .i64 po2, .string pa2] t2))) := fun t t2 => ((Below.refl _ _).alloc (Nat.le_refl _) _).alloc (by simp) _
  have K1 : Hid (∀ W, MaxI W → SliceS W B v n f → Calls Tryd.prog 43 #[v, .agg #[.string sc, .string ho, .int .i64 po, .string pa]] W fun e w' => e = .returned (.string (siteOf n f sc ho pa po)) ∧ Below W.heap.size W w') := fun W a b => siteOf_any v n B f sc ho pa po W a b l1 hf hh
  have K2 : Hid (∀ W, MaxI W → SliceS W B v n f → Calls Tryd.prog 43 #[v, .agg #[.string sc2, .string ho2, .int .i64 po2, .string pa2]] W fun e w' => e = .returned (.string (siteOf n f sc2 ho2 pa2 po2)) ∧ Below W.heap.size W w') := fun W a b => siteOf_any v n B f sc2 ho2 pa2 po2 W a b l1 hf hh2
  have HE : Hid (sameS n f sc ho pa po sc2 ho2 pa2 po2 = (!(siteOf n f sc ho pa po).toList.isEmpty && ((siteOf n f sc ho pa po).toList == (siteOf n f sc2 ho2 pa2 po2).toList))) := sameS_site n f sc ho pa po sc2 ho2 pa2 po2
  clear hf hs hG
  unfold urlV
  generalize sameS n f sc ho pa po sc2 ho2 pa2 po2 = R at *
  generalize siteOf n f sc ho pa po = T at *
  generalize siteOf n f sc2 ho2 pa2 po2 = T2 at *
  go_enter Tryd.func41, Tryd.ntmps41
  go_wp2_with fail
  refine (K1.out _ (HG.out.on (B0.out _ _)) (HSl.out.below (B0.out _ _))).mono ?_
  rintro e w1 ⟨rfl, hb1⟩
  have c0 : w1.cell? ⟨w.heap.size + 1, 0, none⟩ = some (.string sc2) := by rw [(bcell hb1).1 _ _ (by simp)]; simp
  have c1 : w1.cell? ⟨w.heap.size + 1, 1, none⟩ = some (.string ho2) := by rw [(bcell hb1).1 _ _ (by simp)]; simp
  have c2 : w1.cell? ⟨w.heap.size + 1, 2, none⟩ = some (.int .i64 po2) := by rw [(bcell hb1).1 _ _ (by simp)]; simp
  have c3 : w1.cell? ⟨w.heap.size + 1, 3, none⟩ = some (.string pa2) := by rw [(bcell hb1).1 _ _ (by simp)]; simp
  have B1 : Hid (Below w.heap.size w w1) := (B0.out _ _).trans (hb1.mono (by simp; omega))
  clear hb1
  cases hd : T.toList.isEmpty with
  | true =>
    have HR : Hid (R = false) := by show _ = _; rw [HE.out, hd]; rfl
    go_wp2
    go_ret
    exact ⟨ret_bool HR.out.symm, B1.out⟩
  | false =>
    have HR : Hid (R = (T.toList == T2.toList)) := by show _ = _; rw [HE.out, hd]; rfl
    go_wp2_with fail
    refine (K2.out _ (HG.out.on B1.out) (HSl.out.below B1.out)).mono ?_
    rintro e w2 ⟨rfl, hb2⟩
    go_wp2
    go_ret
    exact ⟨ret_bool HR.out.symm, B1.out.trans (hb2.mono B1.out.size)⟩
end Go.Proofs.YtmlacbjlafdenaaDoor
