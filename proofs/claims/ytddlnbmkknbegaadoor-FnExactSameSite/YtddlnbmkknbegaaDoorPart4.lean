/- 3 of this claim's texts, one behind the other. -/
import Derived.Test.YtddlnbmkknbegaaDoorPart3
import Derived.Test.YtddlnbmkknbegaaDoorPart1
import Derived.Deep.RegionHeld3
/- The walks of the specification's l03Site and SiteOf. -/
namespace Go.Proofs.YtddlnbmkknbegaaDoor
open Go.RowKit

/-- the domain, or the host if there is none -/
def siteD (n : Nat) (f : Nat → ByteArray) (ho : ByteArray) : ByteArray := if (sufD n f ho).toList.isEmpty = true then ho else sufD n f ho
def siteT (n : Nat) (f : Nat → ByteArray) (sc ho : ByteArray) : ByteArray := sc ++ ⟨#[58, 47, 47]⟩ ++ siteD n f ho
/-- what SiteOf tells -/
def siteOf (n : Nat) (f : Nat → ByteArray) (sc ho pa : ByteArray) (po : Int) : ByteArray := if rulesB n f = true ∧ urlB sc ho pa po = true then siteT n f sc ho else ⟨#[]⟩
/-- of one site -/
def sameS (n : Nat) (f : Nat → ByteArray) (sc ho pa : ByteArray) (po : Int) (sc2 ho2 pa2 : ByteArray) (po2 : Int) : Bool :=
  rulesB n f && urlB sc ho pa po && urlB sc2 ho2 pa2 po2 && ((siteT n f sc ho).toList == (siteT n f sc2 ho2).toList)
theorem sufD_size (n : Nat) (f : Nat → ByteArray) {s : ByteArray} (h : s.size ≤ 100) : (sufD n f s).size ≤ 20000 := by
  unfold sufD
  split
  · rename_i hc
    have hl := splitB_len s 46
    have := tailN_size (f := atL (splitB s 46)) (d := (splitB s 46).length - (sufC n f s + 1)) 100 (sufC n f s + 1) (fun i hi => piece_small h _ (by omega))
    have h2 : 101 * (sufC n f s + 1) ≤ 101 * 101 := Nat.mul_le_mul_left _ (by omega)
    omega
  · exact Nat.zero_le _
theorem hostB_url {sc ho pa : ByteArray} {po : Int} (h : urlB sc ho pa po = true) : hostB ho = true := by
  unfold urlB placeB at h
  rw [Bool.and_eq_true, Bool.and_eq_true, Bool.and_eq_true] at h
  exact h.1.1.2

set_option maxRecDepth 100000 in
theorem field_domain (a b : ByteArray) (W : World) : Sem.run Tryd.prog (Instr.field 35 (.agg #[.string a, .string b]) 1) W = .ok (.string b) W := by kernel_rfl
set_option maxRecDepth 10000 in
set_option maxHeartbeats 1000000 in
theorem specSite_any (v : Value) (n B : Nat) (f : Nat → ByteArray) (sc ho pa : ByteArray) (po : Int) (w : World) (hs : SliceS w B v n f) (l1 : n ≤ 1048576) (hf : ∀ i, i < n → 0 < (f i).size ∧ (f i).size ≤ 1000) (h5 : sc.size ≤ 5) (hh : ho.size ≤ 100) :
    Calls Tryd.prog 37 #[v, urlV sc ho pa po] w fun e w' => e = .returned (.string (siteT n f sc ho)) ∧ Below w.heap.size w w' := by
  have B0 : Hid (∀ t : TypeId, Below w.heap.size w (w.alloc (.cells #[.string sc, .string ho, .int .i64 po, .string pa] t))) := fun t => (Below.refl _ _).alloc (Nat.le_refl _) _
  have KO : Hid (∀ t : TypeId, Calls Tryd.prog 42 #[v, .string ho] (w.alloc (.cells #[.string sc, .string ho, .int .i64 po, .string pa] t)) fun e w' => e = .returned (.agg #[.string (sufS n f ho), .string (sufD n f ho)]) ∧ Below (w.alloc (.cells #[.string sc, .string ho, .int .i64 po, .string pa] t)).heap.size (w.alloc (.cells #[.string sc, .string ho, .int .i64 po, .string pa] t)) w') :=
    fun t => specOf_any v n B f ho _ (hs.below (B0.out t)) l1 hf hh
  have hz := sufD_size n f hh
  have ET : Hid (siteT n f sc ho = sc ++ ⟨#[58, 47, 47]⟩ ++ (if (sufD n f ho).toList.isEmpty = true then ho else sufD n f ho)) := rfl
  have h3 : (sc ++ ⟨#[58, 47, 47]⟩ : ByteArray).size ≤ 8 := by
    have e : (⟨#[58, 47, 47]⟩ : ByteArray).size = 3 := rfl
    rw [ByteArray.size_append, e]; omega
  clear hs hf
  generalize siteT n f sc ho = T at *
  generalize sufD n f ho = D at *
  generalize sufS n f ho = S at *
  unfold urlV
  have hfd : ∀ (a b : ByteArray) (W : World), Sem.run Tryd.prog (Instr.field 35 (.agg #[.string a, .string b]) 1) W = .ok (.string b) W := field_domain
  go_enter Tryd.func37, Tryd.ntmps37
  go_wp2_with fail
  refine (KO.out _).mono ?_
  rintro e w1 ⟨rfl, hb1⟩
  have c0 : w1.cell? ⟨w.heap.size, 0, none⟩ = some (.string sc) := by rw [(bcell hb1).1 _ _ (by simp)]; simp
  have c1 : w1.cell? ⟨w.heap.size, 1, none⟩ = some (.string ho) := by rw [(bcell hb1).1 _ _ (by simp)]; simp
  have B1 : Hid (Below w.heap.size w w1) := (B0.out _).trans (hb1.mono (by simp))
  clear hb1
  cases hd : D.toList.isEmpty with
  | true =>
    have HT : Hid (T = sc ++ ⟨#[58, 47, 47]⟩ ++ ho) := by show _ = _; rw [ET.out, if_pos hd]
    go_wp2
    go_ret
    exact ⟨ret_text HT.out.symm, B1.out⟩
  | false =>
    have HT : Hid (T = sc ++ ⟨#[58, 47, 47]⟩ ++ D) := by show _ = _; rw [ET.out, if_neg (by rw [hd]; decide)]
    go_wp2
    go_ret
    exact ⟨ret_text HT.out.symm, B1.out⟩
set_option maxRecDepth 10000 in
set_option maxHeartbeats 1000000 in
theorem specSiteOf_any (v : Value) (n B : Nat) (f : Nat → ByteArray) (sc ho pa : ByteArray) (po : Int) (w : World) (hs : SliceS w B v n f) (l1 : n ≤ 1048576) (hf : ∀ i, i < n → (f i).size ≤ 1048576) :
    Calls Tryd.prog 15 #[v, urlV sc ho pa po] w fun e w' => e = .returned (.string (siteOf n f sc ho pa po)) ∧ Below w.heap.size w w' := by
  have HSl : Hid (SliceS w B v n f) := hs
  have B0 : Hid (∀ t : TypeId, Below w.heap.size w (w.alloc (.cells #[.string sc, .string ho, .int .i64 po, .string pa] t))) := fun t => (Below.refl _ _).alloc (Nat.le_refl _) _
  have KR : Hid (∀ W, SliceS W B v n f → Calls Tryd.prog 16 #[v] W fun e w' => e = .returned (.bool (rulesB n f)) ∧ Below W.heap.size W w') := fun W a => specRules_any v n B f W a l1 hf
  have KU : Hid (∀ W, Calls Tryd.prog 17 #[.agg #[.string sc, .string ho, .int .i64 po, .string pa]] W fun e w' => e = .returned (.bool (urlB sc ho pa po)) ∧ Below W.heap.size W w') := fun W => specUrlRight_any sc ho pa po W
  have KT : Hid (rulesB n f = true → urlB sc ho pa po = true → ∀ W, SliceS W B v n f → Calls Tryd.prog 37 #[v, .agg #[.string sc, .string ho, .int .i64 po, .string pa]] W fun e w' => e = .returned (.string (siteT n f sc ho)) ∧ Below W.heap.size W w') :=
    fun a b W c => specSite_any v n B f sc ho pa po W c l1 (rulesB_parts a).2 (urlB_parts b).1 (urlB_parts b).2.1
  have HN : Hid (¬ (rulesB n f = true ∧ urlB sc ho pa po = true) → siteOf n f sc ho pa po = ⟨#[]⟩) := fun h => by rw [siteOf, if_neg h]
  have HY : Hid (rulesB n f = true → urlB sc ho pa po = true → siteOf n f sc ho pa po = siteT n f sc ho) := fun a b => by rw [siteOf, if_pos ⟨a, b⟩]
  have HR20 : Hid (rulesB n f = true → n ≤ 20) := fun a => (rulesB_parts a).1
  obtain ⟨p, cap, rfl, -⟩ := hs
  clear hf
  unfold urlV
  by_cases h400 : 400 < n
  · have HZ : Hid (siteOf n f sc ho pa po = ⟨#[]⟩) := HN.out (fun a => by have := HR20.out a.1; omega)
    go_enter Tryd.func15, Tryd.ntmps15
    go_wp2
    go_ret
    exact ⟨ret_text HZ.out.symm, B0.out _⟩
  have q1 : decide ((400 : Int) < (n : Int)) = false := by rw [decide_eq_false_iff_not]; omega
  generalize siteOf n f sc ho pa po = T at *
  generalize siteT n f sc ho = T2 at *
  generalize rulesB n f = rb at *
  generalize urlB sc ho pa po = ub at *
  cases rb with
  | false =>
    have HZ : Hid (T = ⟨#[]⟩) := HN.out (fun a => by cases a.1)
    go_enter Tryd.func15, Tryd.ntmps15
    go_wp2_with fail
    refine (KR.out _ (HSl.out.below (B0.out _))).mono ?_
    rintro e w1 ⟨rfl, hb1⟩
    have B1 : Hid (Below w.heap.size w w1) := (B0.out _).trans (hb1.mono (by simp))
    clear hb1
    go_wp2
    go_ret
    exact ⟨ret_text HZ.out.symm, B1.out⟩
  | true =>
    go_enter Tryd.func15, Tryd.ntmps15
    go_wp2_with fail
    refine (KR.out _ (HSl.out.below (B0.out _))).mono ?_
    rintro e w1 ⟨rfl, hb1⟩
    have c0 : w1.cell? ⟨w.heap.size, 0, none⟩ = some (.string sc) := by rw [(bcell hb1).1 _ _ (by simp)]; simp
    have c1 : w1.cell? ⟨w.heap.size, 1, none⟩ = some (.string ho) := by rw [(bcell hb1).1 _ _ (by simp)]; simp
    have c2 : w1.cell? ⟨w.heap.size, 2, none⟩ = some (.int .i64 po) := by rw [(bcell hb1).1 _ _ (by simp)]; simp
    have c3 : w1.cell? ⟨w.heap.size, 3, none⟩ = some (.string pa) := by rw [(bcell hb1).1 _ _ (by simp)]; simp
    have hz1 : w.heap.size < w1.heap.size := by have := hb1.size; simp at this; omega
    have B1 : Hid (Below w.heap.size w w1) := (B0.out _).trans (hb1.mono (by simp))
    clear hb1
    go_wp2_with fail
    refine (KU.out _).mono ?_
    rintro e w2 ⟨rfl, hb2⟩
    have B2 : Hid (Below w.heap.size w w2) := B1.out.trans (hb2.mono B1.out.size)
    cases ub with
    | false =>
      have HZ : Hid (T = ⟨#[]⟩) := HN.out (fun a => by cases a.2)
      clear hb2
      go_wp2
      go_ret
      exact ⟨ret_text HZ.out.symm, B2.out⟩
    | true =>
      have HZ : Hid (T = T2) := HY.out (by trivial) (by trivial)
      have KT2 : Hid _ := KT.out (by trivial) (by trivial)
      have d0 : w2.cell? ⟨w.heap.size, 0, none⟩ = some (.string sc) := by rw [(bcell hb2).1 _ _ hz1]; exact c0
      have d1 : w2.cell? ⟨w.heap.size, 1, none⟩ = some (.string ho) := by rw [(bcell hb2).1 _ _ hz1]; exact c1
      have d2 : w2.cell? ⟨w.heap.size, 2, none⟩ = some (.int .i64 po) := by rw [(bcell hb2).1 _ _ hz1]; exact c2
      have d3 : w2.cell? ⟨w.heap.size, 3, none⟩ = some (.string pa) := by rw [(bcell hb2).1 _ _ hz1]; exact c3
      clear hb2 c0 c1 c2 c3 KT HN HY
      go_wp2_with fail
      refine (KT2.out _ (HSl.out.below B2.out)).mono ?_
      rintro e w3 ⟨rfl, hb3⟩
      go_wp2
      go_ret
      exact ⟨ret_text HZ.out.symm, B2.out.trans (hb3.mono B2.out.size)⟩
end Go.Proofs.YtddlnbmkknbegaaDoor

/- The walks of the program's SiteOf and SameSite. -/
namespace Go.Proofs.YtddlnbmkknbegaaDoor
open Go.RowKit

set_option maxRecDepth 10000 in
set_option maxHeartbeats 1000000 in
theorem siteOf_any (v : Value) (n B : Nat) (f : Nat → ByteArray) (sc ho pa : ByteArray) (po : Int) (w : World) (hG : MaxI w) (hs : SliceS w B v n f) (l1 : n ≤ 1048576) (hf : ∀ i, i < n → (f i).size ≤ 1048576) (hh : ho.size ≤ 1048576) :
    Calls Tryd.prog 14 #[v, urlV sc ho pa po] w fun e w' => e = .returned (.string (siteOf n f sc ho pa po)) ∧ Below w.heap.size w w' := by
  have HSl : Hid (SliceS w B v n f) := hs
  have HG : Hid (MaxI w) := hG
  have B0 : Hid (∀ t : TypeId, Below w.heap.size w (w.alloc (.cells #[.string sc, .string ho, .int .i64 po, .string pa] t))) := fun t => (Below.refl _ _).alloc (Nat.le_refl _) _
  have KR : Hid (∀ W, MaxI W → SliceS W B v n f → Calls Tryd.prog 23 #[v] W fun e w' => e = .returned (.bool (rulesB n f)) ∧ Below W.heap.size W w') := fun W a b => rulesRight_any v n B f W a b l1 hf
  have KU : Hid (∀ W, MaxI W → Calls Tryd.prog 38 #[.agg #[.string sc, .string ho, .int .i64 po, .string pa]] W fun e w' => e = .returned (.bool (urlB sc ho pa po)) ∧ Below W.heap.size W w') := fun W a => urlRight_any sc ho pa po W a hh
  have KT : Hid (∀ W, MaxI W → SliceS W B v n f → Calls Tryd.prog 29 #[v, .string ho] W fun e w' => e = .returned (.agg #[.string (sufOf n f ho).1, .string (sufOf n f ho).2]) ∧ Below W.heap.size W w') := fun W a b => suffixOf_any v n B f ho W a b l1 hf hh
  have HN : Hid (¬ (rulesB n f = true ∧ urlB sc ho pa po = true) → siteOf n f sc ho pa po = ⟨#[]⟩) := fun h => by rw [siteOf, if_neg h]
  have HY : Hid (rulesB n f = true → urlB sc ho pa po = true → siteOf n f sc ho pa po = sc ++ ⟨#[58, 47, 47]⟩ ++ (if (sufOf n f ho).2.toList.isEmpty = true then ho else (sufOf n f ho).2) ∧ sc.size ≤ 5 ∧ ho.size ≤ 100 ∧ (sufOf n f ho).2.size ≤ 20000) := fun a b => by
    have hp := urlB_parts b
    have e : sufOf n f ho = (sufS n f ho, sufD n f ho) := by rw [sufOf, if_pos ⟨a, hostB_url b⟩]
    rw [siteOf, if_pos ⟨a, b⟩, e]
    exact ⟨rfl, hp.1, hp.2.1, sufD_size n f hp.2.1⟩
  clear hf hs hG
  unfold urlV
  have hfd : ∀ (a b : ByteArray) (W : World), Sem.run Tryd.prog (Instr.field 35 (.agg #[.string a, .string b]) 1) W = .ok (.string b) W := field_domain
  generalize siteOf n f sc ho pa po = T at *
  generalize (sufOf n f ho).2 = D at *
  generalize (sufOf n f ho).1 = S at *
  generalize rulesB n f = rb at *
  generalize urlB sc ho pa po = ub at *
  cases rb with
  | false =>
    have HZ : Hid (T = ⟨#[]⟩) := HN.out (fun a => by cases a.1)
    go_enter Tryd.func14, Tryd.ntmps14
    go_wp2_with fail
    refine (KR.out _ (HG.out.on (B0.out _)) (HSl.out.below (B0.out _))).mono ?_
    rintro e w1 ⟨rfl, hb1⟩
    have B1 : Hid (Below w.heap.size w w1) := (B0.out _).trans (hb1.mono (by simp))
    clear hb1
    go_wp2
    go_ret
    exact ⟨ret_text HZ.out.symm, B1.out⟩
  | true =>
    have HN2 : Hid (ub = false → T = ⟨#[]⟩) := fun h => HN.out (fun a => by rw [h] at a; cases a.2)
    have HY2 : Hid _ := HY.out rfl
    clear HN HY
    go_enter Tryd.func14, Tryd.ntmps14
    go_wp2_with fail
    refine (KR.out _ (HG.out.on (B0.out _)) (HSl.out.below (B0.out _))).mono ?_
    rintro e w1 ⟨rfl, hb1⟩
    have c0 : w1.cell? ⟨w.heap.size, 0, none⟩ = some (.string sc) := by rw [(bcell hb1).1 _ _ (by simp)]; simp
    have c1 : w1.cell? ⟨w.heap.size, 1, none⟩ = some (.string ho) := by rw [(bcell hb1).1 _ _ (by simp)]; simp
    have c2 : w1.cell? ⟨w.heap.size, 2, none⟩ = some (.int .i64 po) := by rw [(bcell hb1).1 _ _ (by simp)]; simp
    have c3 : w1.cell? ⟨w.heap.size, 3, none⟩ = some (.string pa) := by rw [(bcell hb1).1 _ _ (by simp)]; simp
    have hz1 : w.heap.size < w1.heap.size := by have := hb1.size; simp at this; omega
    have B1 : Hid (Below w.heap.size w w1) := (B0.out _).trans (hb1.mono (by simp))
    clear hb1
    go_wp2_with fail
    refine (KU.out _ (HG.out.on B1.out)).mono ?_
    rintro e w2 ⟨rfl, hb2⟩
    have B2 : Hid (Below w.heap.size w w2) := B1.out.trans (hb2.mono B1.out.size)
    cases ub with
    | false =>
      have HZ : Hid (T = ⟨#[]⟩) := HN2.out rfl
      clear hb2
      go_wp2
      go_ret
      exact ⟨ret_text HZ.out.symm, B2.out⟩
    | true =>
      obtain ⟨hT, h5, h100, hD⟩ := HY2.out rfl
      have ET : Hid (T = sc ++ ⟨#[58, 47, 47]⟩ ++ (if D.toList.isEmpty = true then ho else D)) := hT
      have h3 : (sc ++ ⟨#[58, 47, 47]⟩ : ByteArray).size ≤ 8 := by
        have e : (⟨#[58, 47, 47]⟩ : ByteArray).size = 3 := rfl
        rw [ByteArray.size_append, e]; omega
      have d0 : w2.cell? ⟨w.heap.size, 0, none⟩ = some (.string sc) := by rw [(bcell hb2).1 _ _ hz1]; exact c0
      have d1 : w2.cell? ⟨w.heap.size, 1, none⟩ = some (.string ho) := by rw [(bcell hb2).1 _ _ hz1]; exact c1
      have hz2 : w.heap.size < w2.heap.size := Nat.lt_of_lt_of_le hz1 hb2.size
      clear hb2 c0 c1 c2 c3 HN2 HY2 hT
      go_wp2_with fail
      refine (KT.out _ (HG.out.on B2.out) (HSl.out.below B2.out)).mono ?_
      rintro e w3 ⟨rfl, hb3⟩
      have f0 : w3.cell? ⟨w.heap.size, 0, none⟩ = some (.string sc) := by rw [(bcell hb3).1 _ _ hz2]; exact d0
      have f1 : w3.cell? ⟨w.heap.size, 1, none⟩ = some (.string ho) := by rw [(bcell hb3).1 _ _ hz2]; exact d1
      have B3 : Hid (Below w.heap.size w w3) := B2.out.trans (hb3.mono B2.out.size)
      clear hb3 d0 d1
      cases hd : D.toList.isEmpty with
      | true =>
        have HT : Hid (T = sc ++ ⟨#[58, 47, 47]⟩ ++ ho) := by show _ = _; rw [ET.out, if_pos hd]
        go_wp2
        go_ret
        exact ⟨ret_text HT.out.symm, B3.out⟩
      | false =>
        have HT : Hid (T = sc ++ ⟨#[58, 47, 47]⟩ ++ D) := by show _ = _; rw [ET.out, if_neg (by rw [hd]; decide)]
        go_wp2
        go_ret
        exact ⟨ret_text HT.out.symm, B3.out⟩

theorem siteT_ne (n : Nat) (f : Nat → ByteArray) (sc ho : ByteArray) : (siteT n f sc ho).toList.isEmpty = false := by
  rw [Lib.toList_data, List.isEmpty_eq_false_iff]
  intro e
  have h : (siteT n f sc ho).size = 0 := by rw [Lib.size_eq, e]; rfl
  unfold siteT at h
  have e3 : (⟨#[58, 47, 47]⟩ : ByteArray).size = 3 := rfl
  rw [ByteArray.size_append, ByteArray.size_append, e3] at h
  omega
theorem sameS_site (n : Nat) (f : Nat → ByteArray) (sc ho pa : ByteArray) (po : Int) (sc2 ho2 pa2 : ByteArray) (po2 : Int) :
    sameS n f sc ho pa po sc2 ho2 pa2 po2 = (!(siteOf n f sc ho pa po).toList.isEmpty && ((siteOf n f sc ho pa po).toList == (siteOf n f sc2 ho2 pa2 po2).toList)) := by
  unfold sameS siteOf
  cases rulesB n f <;> cases urlB sc ho pa po <;> cases urlB sc2 ho2 pa2 po2 <;> simp [siteT_ne]

set_option maxRecDepth 10000 in
set_option maxHeartbeats 1000000 in
theorem sameSite_any (v : Value) (n B : Nat) (f : Nat → ByteArray) (sc ho pa : ByteArray) (po : Int) (sc2 ho2 pa2 : ByteArray) (po2 : Int) (w : World) (hG : MaxI w) (hs : SliceS w B v n f) (l1 : n ≤ 1048576) (hf : ∀ i, i < n → (f i).size ≤ 1048576) (hh : ho.size ≤ 1048576) (hh2 : ho2.size ≤ 1048576) :
    Calls Tryd.prog 12 #[v, urlV sc ho pa po, urlV sc2 ho2 pa2 po2] w fun e w' => e = .returned (.bool (sameS n f sc ho pa po sc2 ho2 pa2 po2)) ∧ Below w.heap.size w w' := by
  have HSl : Hid (SliceS w B v n f) := hs
  have HG : Hid (MaxI w) := hG
  have B0 : Hid (∀ t t2 : TypeId, Below w.heap.size w ((w.alloc (.cells #[.string sc, .string ho, .int .i64 po, .string pa] t)).alloc (.cells #[.string sc2, .string ho2, .int .i64 po2, .string pa2] t2))) := fun t t2 => ((Below.refl _ _).alloc (Nat.le_refl _) _).alloc (by simp) _
  have K1 : Hid (∀ W, MaxI W → SliceS W B v n f → Calls Tryd.prog 14 #[v, .agg #[.string sc, .string ho, .int .i64 po, .string pa]] W fun e w' => e = .returned (.string (siteOf n f sc ho pa po)) ∧ Below W.heap.size W w') := fun W a b => siteOf_any v n B f sc ho pa po W a b l1 hf hh
  have K2 : Hid (∀ W, MaxI W → SliceS W B v n f → Calls Tryd.prog 14 #[v, .agg #[.string sc2, .string ho2, .int .i64 po2, .string pa2]] W fun e w' => e = .returned (.string (siteOf n f sc2 ho2 pa2 po2)) ∧ Below W.heap.size W w') := fun W a b => siteOf_any v n B f sc2 ho2 pa2 po2 W a b l1 hf hh2
  have HE : Hid (sameS n f sc ho pa po sc2 ho2 pa2 po2 = (!(siteOf n f sc ho pa po).toList.isEmpty && ((siteOf n f sc ho pa po).toList == (siteOf n f sc2 ho2 pa2 po2).toList))) := sameS_site n f sc ho pa po sc2 ho2 pa2 po2
  clear hf hs hG
  unfold urlV
  generalize sameS n f sc ho pa po sc2 ho2 pa2 po2 = R at *
  generalize siteOf n f sc ho pa po = T at *
  generalize siteOf n f sc2 ho2 pa2 po2 = T2 at *
  go_enter Tryd.func12, Tryd.ntmps12
  go_wp2_with fail
  refine (K1.out _ (HG.out.on (B0.out _ _)) (HSl.out.below (B0.out _ _))).mono ?_
  rintro e w1 ⟨rfl, hb1⟩
  have c0 : w1.cell? ⟨w.heap.size + 1, 0, none⟩ = some (.string sc2) := by rw [(bcell hb1).1 _ _ (by simp)]; simp
  have c1 : w1.cell? ⟨w.heap.size + 1, 1, none⟩ = some (.string ho2) := by rw [(bcell hb1).1 _ _ (by simp)]; simp
  have c2 : w1.cell? ⟨w.heap.size + 1, 2, none⟩ = some (.int .i64 po2) := by rw [(bcell hb1).1 _ _ (by simp)]; simp
  have c3 : w1.cell? ⟨w.heap.size + 1, 3, none⟩ = some (.string pa2) := by rw [(bcell hb1).1 _ _ (by simp)]; simp
  have B1 : Hid (Below w.heap.size w w1) := (B0.out _ _).trans (hb1.mono (by simp; omega))
  clear hb1
  cases hd : T.toList.isEmpty with
  | true =>
    have HR : Hid (R = false) := by show _ = _; rw [HE.out, hd]; rfl
    go_wp2
    go_ret
    exact ⟨ret_bool HR.out.symm, B1.out⟩
  | false =>
    have HR : Hid (R = (T.toList == T2.toList)) := by show _ = _; rw [HE.out, hd]; rfl
    go_wp2_with fail
    refine (K2.out _ (HG.out.on B1.out) (HSl.out.below B1.out)).mono ?_
    rintro e w2 ⟨rfl, hb2⟩
    go_wp2
    go_ret
    exact ⟨ret_bool HR.out.symm, B1.out.trans (hb2.mono B1.out.size)⟩
end Go.Proofs.YtddlnbmkknbegaaDoor

/- What a list of cells holds, kept by whatever leaves old blocks as they were. -/
namespace Go.Proofs.YtddlnbmkknbegaaDoor
open Go.RowKit
theorem cell_in {W : World} {p : Addr} {v : Value} (h : W.cell? p = some v) : p.block < W.heap.size := by
  by_cases hb : p.block < W.heap.size
  · exact hb
  · exfalso
    simp [World.cell?, Array.getElem?_eq_none (show W.heap.size ≤ p.block by omega)] at h
/-- what these cells hold -/
def Cells (W : World) : List (Addr × Value) → Prop
  | [] => True
  | p :: L => W.cell? p.1 = some p.2 ∧ Cells W L
theorem Cells.below {W W' : World} : ∀ {L : List (Addr × Value)}, Cells W L → Below W.heap.size W W' → Cells W' L
  | [], _, _ => trivial
  | _ :: _, h, hb => ⟨(@Below.cell _ _ _ hb _ (cell_in h.1)).trans h.1, Cells.below h.2 hb⟩
theorem Cells.join {W : World} : ∀ {L M : List (Addr × Value)}, Cells W L → Cells W M → Cells W (L ++ M)
  | [], _, _, h => h
  | _ :: _, _, h, k => ⟨h.1, Cells.join h.2 k⟩
/-- a slice of texts, wherever it lies -/
def SliceH (w : World) (v : Value) (n : Nat) (f : Nat → ByteArray) : Prop := Hid (SliceS w 0 v n f)
theorem SliceH.out {w : World} {v : Value} {n : Nat} {f : Nat → ByteArray} (h : SliceH w v n f) : SliceS w 0 v n f := Hid.out h
theorem strip {w : World} {B n : Nat} {v : Value} {f : Nat → ByteArray} (h : SliceS w B v n f) : SliceH w v n f := by
  obtain ⟨p, cap, rfl, h⟩ := h
  exact (⟨p, cap, rfl, fun hn => by obtain ⟨g, e, _, r⟩ := h hn; exact ⟨g, e, Nat.zero_le _, r⟩⟩ : SliceS w 0 _ n f)
theorem SliceH.below {w w' : World} {v : Value} {n : Nat} {f : Nat → ByteArray} (h : SliceH w v n f) (hb : Below w.heap.size w w') : SliceH w' v n f := SliceS.below h.out hb
end Go.Proofs.YtddlnbmkknbegaaDoor
