/- 9 of this claim's texts, one behind the other. -/
import Derived.Test.YtmlacbjlafdenahDoorPart2
import Derived.Test.YtmlacbjlafdenahDoorPart1
import Derived.Deep.RegionHeld3
import Derived.Laws.ResultCell
import Derived.ProofKit
import Derived.OpenShut
import Derived.Deep.Strs
import Derived.Handed
import Derived.Lay
import Derived.MakeChecks
import Derived.Lib.LaidTab
import Derived.Stop.LaidErr
/- The walks of the specification's l03Site and SiteOf. -/
namespace Go.Proofs.YtmlacbjlafdenahDoor
open Go.RowKit

/-- the domain, or the host if there is none -/
def siteD (n : Nat) (f : Nat → ByteArray) (ho : ByteArray) : ByteArray := if (sufD n f ho).toList.isEmpty = true then ho else sufD n f ho
def siteT (n : Nat) (f : Nat → ByteArray) (sc ho : ByteArray) : ByteArray := sc ++ ⟨#[58, 47, 47]⟩ ++ siteD n f ho
/-- what SiteOf tells -/
def siteOf (n : Nat) (f : Nat → ByteArray) (sc ho pa : ByteArray) (po : Int) : ByteArray := if rulesB n f = true ∧ urlB sc ho pa po = true then siteT n f sc ho else ⟨#[]⟩
/-- of one site -/
def sameS (n : Nat) (f : Nat → ByteArray) (sc ho pa : ByteArray) (po : Int) (sc2 ho2 pa2 : ByteArray) (po2 : Int) : Bool :=
  rulesB n f && urlB sc ho pa po && urlB sc2 ho2 pa2 po2 && ((siteT n f sc ho).toList == (siteT n f sc2 ho2).toList)
theorem sufD_size (n : Nat) (f : Nat → ByteArray) {s : ByteArray} (h : s.size ≤ 100) : (sufD n f s).size ≤ 20000 := by
  unfold sufD
  split
  · rename_i hc
    have hl := splitB_len s 46
    have := tailN_size (f := atL (splitB s 46)) (d := (splitB s 46).length - (sufC n f s + 1)) 100 (sufC n f s + 1) (fun i hi => piece_small h _ (by omega))
    have h2 : 101 * (sufC n f s + 1) ≤ 101 * 101 := Nat.mul_le_mul_left _ (by omega)
    omega
  · exact Nat.zero_le _
theorem hostB_url {sc ho pa : ByteArray} {po : Int} (h : urlB sc ho pa po = true) : hostB ho = true := by
  unfold urlB placeB at h
  rw [Bool.and_eq_true, Bool.and_eq_true, Bool.and_eq_true] at h
  exact h.1.1.2

set_option maxRecDepth 100000 in
theorem field_domain (a b : ByteArray) (W : World) : Sem.run Tryd.prog (Instr.field 30 (.agg #[.string a, .string b]) 1) W = .ok (.string b) W := by kernel_rfl
set_option maxRecDepth 10000 in
set_option maxHeartbeats 1000000 in
theorem specSite_any (v : Value) (n B : Nat) (f : Nat → ByteArray) (sc ho pa : ByteArray) (po : Int) (w : World) (hs : SliceS w B v n f) (l1 : n ≤ 1048576) (hf : ∀ i, i < n → 0 < (f i).size ∧ (f i).size ≤ 1000) (h5 : sc.size ≤ 5) (hh : ho.size ≤ 100) :
    Calls Tryd.prog 42 #[v, urlV sc ho pa po] w fun e w' => e = .returned (.string (siteT n f sc ho)) ∧ Below w.heap.size w w' := by
  have B0 : Hid (∀ t : TypeId, Below w.heap.size w (w.alloc (.cells #[.string sc, .string ho, .int .i64 po, .string pa] t))) := fun t => (Below.refl _ _).alloc (Nat.le_refl _) _
  have KO : Hid (∀ t : TypeId, Calls Tryd.prog 36 #[v, .string ho] (w.alloc (.cells #[.string sc, .string ho, .int .i64 po, .string pa] t)) fun e w' => e = .returned (.agg #[.string (sufS n f ho), .string (sufD n f ho)]) ∧ Below (w.alloc (.cells #[.string sc, .string ho, .int .i64 po, .string pa] t)).heap.size (w.alloc (.cells #[.string sc, .string ho, .int .i64 po, .string pa] t)) w') :=
    fun t => specOf_any v n B f ho _ (hs.below (B0.out t)) l1 hf hh
  have hz := sufD_size n f hh
  have ET : Hid (siteT n f sc ho = sc ++ ⟨#[58, 47, 47]⟩ ++ (if (sufD n f ho).toList.isEmpty = true then ho else sufD n f ho)) := rfl
  have h3 : (sc ++ ⟨#[58, 47, 47]⟩ : ByteArray).size ≤ 8 := by
    have e : (⟨#[58, 47, 47]⟩ : ByteArray).size = 3 := rfl
    rw [ByteArray.size_append, e]; omega
  clear hs hf
  generalize siteT n f sc ho = T at *
  generalize sufD n f ho = D at *
  generalize sufS n f ho = S at *
  unfold urlV
  have hfd : ∀ (a b : ByteArray) (W : World), Sem.run Tryd.prog (Instr.field 30 (.agg #[.string a, .string b]) 1) W = .ok (.string b) W := field_domain
  go_enter Tryd.func42, Tryd.ntmps42
  go_wp2_with fail
  refine (KO.out _).mono ?_
  rintro e w1 ⟨rfl, hb1⟩
  have c0 : w1.cell? ⟨w.heap.size, 0, none⟩ = some (.string sc) := by rw [(bcell hb1).1 _ _ (by simp)]; simp
  have c1 : w1.cell? ⟨w.heap.size, 1, none⟩ = some (.string ho) := by rw [(bcell hb1).1 _ _ (by simp)]; simp
  have B1 : Hid (Below w.heap.size w w1) := (B0.out _).trans (hb1.mono (by simp))
  clear hb1
  cases hd : D.toList.isEmpty with
  | true =>
    have HT : Hid (T = sc ++ ⟨#[58, 47, 47]⟩ ++ ho) := by show _ = _; rw [ET.out, if_pos hd]
    go_wp2
    go_ret
    exact ⟨ret_text HT.out.symm, B1.out⟩
  | false =>
    have HT : Hid (T = sc ++ ⟨#[58, 47, 47]⟩ ++ D) := by show _ = _; rw [ET.out, if_neg (by rw [hd]; decide)]
    go_wp2
    go_ret
    exact ⟨ret_text HT.out.symm, B1.out⟩
set_option maxRecDepth 10000 in
set_option maxHeartbeats 1000000 in
theorem specSiteOf_any (v : Value) (n B : Nat) (f : Nat → ByteArray) (sc ho pa : ByteArray) (po : Int) (w : World) (hs : SliceS w B v n f) (l1 : n ≤ 1048576) (hf : ∀ i, i < n → (f i).size ≤ 1048576) :
    Calls Tryd.prog 21 #[v, urlV sc ho pa po] w fun e w' => e = .returned (.string (siteOf n f sc ho pa po)) ∧ Below w.heap.size w w' := by
  have HSl : Hid (SliceS w B v n f) := hs
  have B0 : Hid (∀ t : TypeId, Below w.heap.size w (w.alloc (.cells #[.string sc, .string ho, .int .i64 po, .string pa] t))) := fun t => (Below.refl _ _).alloc (Nat.le_refl _) _
  have KR : Hid (∀ W, SliceS W B v n f → Calls Tryd.prog 9 #[v] W fun e w' => e = .returned (.bool (rulesB n f)) ∧ Below W.heap.size W w') := fun W a => specRules_any v n B f W a l1 hf
  have KU : Hid (∀ W, Calls Tryd.prog 41 #[.agg #[.string sc, .string ho, .int .i64 po, .string pa]] W fun e w' => e = .returned (.bool (urlB sc ho pa po)) ∧ Below W.heap.size W w') := fun W => specUrlRight_any sc ho pa po W
  have KT : Hid (rulesB n f = true → urlB sc ho pa po = true → ∀ W, SliceS W B v n f → Calls Tryd.prog 42 #[v, .agg #[.string sc, .string ho, .int .i64 po, .string pa]] W fun e w' => e = .returned (.string (siteT n f sc ho)) ∧ Below W.heap.size W w') :=
    fun a b W c => specSite_any v n B f sc ho pa po W c l1 (rulesB_parts a).2 (urlB_parts b).1 (urlB_parts b).2.1
  have HN : Hid (¬ (rulesB n f = true ∧ urlB sc ho pa po = true) → siteOf n f sc ho pa po = ⟨#[]⟩) := fun h => by rw [siteOf, if_neg h]
  have HY : Hid (rulesB n f = true → urlB sc ho pa po = true → siteOf n f sc ho pa po = siteT n f sc ho) := fun a b => by rw [siteOf, if_pos ⟨a, b⟩]
  have HR20 : Hid (rulesB n f = true → n ≤ 20) := fun a => (rulesB_parts a).1
  obtain ⟨p, cap, rfl, -⟩ := hs
  clear hf
  unfold urlV
  by_cases h400 : 400 < n
  · have HZ : Hid (siteOf n f sc ho pa po = ⟨#[]⟩) := HN.out (fun a => by have := HR20.out a.1; omega)
    go_enter Tryd.func21, Tryd.ntmps21
    go_wp2
    go_ret
    exact ⟨ret_text HZ.out.symm, B0.out _⟩
  have q1 : decide ((400 : Int) < (n : Int)) = false := by rw [decide_eq_false_iff_not]; omega
  generalize siteOf n f sc ho pa po = T at *
  generalize siteT n f sc ho = T2 at *
  generalize rulesB n f = rb at *
  generalize urlB sc ho pa po = ub at *
  cases rb with
  | false =>
    have HZ : Hid (T = ⟨#[]⟩) := HN.out (fun a => by cases a.1)
    go_enter Tryd.func21, Tryd.ntmps21
    go_wp2_with fail
    refine (KR.out _ (HSl.out.below (B0.out _))).mono ?_
    rintro e w1 ⟨rfl, hb1⟩
    have B1 : Hid (Below w.heap.size w w1) := (B0.out _).trans (hb1.mono (by simp))
    clear hb1
    go_wp2
    go_ret
    exact ⟨ret_text HZ.out.symm, B1.out⟩
  | true =>
    go_enter Tryd.func21, Tryd.ntmps21
    go_wp2_with fail
    refine (KR.out _ (HSl.out.below (B0.out _))).mono ?_
    rintro e w1 ⟨rfl, hb1⟩
    have c0 : w1.cell? ⟨w.heap.size, 0, none⟩ = some (.string sc) := by rw [(bcell hb1).1 _ _ (by simp)]; simp
    have c1 : w1.cell? ⟨w.heap.size, 1, none⟩ = some (.string ho) := by rw [(bcell hb1).1 _ _ (by simp)]; simp
    have c2 : w1.cell? ⟨w.heap.size, 2, none⟩ = some (.int .i64 po) := by rw [(bcell hb1).1 _ _ (by simp)]; simp
    have c3 : w1.cell? ⟨w.heap.size, 3, none⟩ = some (.string pa) := by rw [(bcell hb1).1 _ _ (by simp)]; simp
    have hz1 : w.heap.size < w1.heap.size := by have := hb1.size; simp at this; omega
    have B1 : Hid (Below w.heap.size w w1) := (B0.out _).trans (hb1.mono (by simp))
    clear hb1
    go_wp2_with fail
    refine (KU.out _).mono ?_
    rintro e w2 ⟨rfl, hb2⟩
    have B2 : Hid (Below w.heap.size w w2) := B1.out.trans (hb2.mono B1.out.size)
    cases ub with
    | false =>
      have HZ : Hid (T = ⟨#[]⟩) := HN.out (fun a => by cases a.2)
      clear hb2
      go_wp2
      go_ret
      exact ⟨ret_text HZ.out.symm, B2.out⟩
    | true =>
      have HZ : Hid (T = T2) := HY.out (by trivial) (by trivial)
      have KT2 : Hid _ := KT.out (by trivial) (by trivial)
      have d0 : w2.cell? ⟨w.heap.size, 0, none⟩ = some (.string sc) := by rw [(bcell hb2).1 _ _ hz1]; exact c0
      have d1 : w2.cell? ⟨w.heap.size, 1, none⟩ = some (.string ho) := by rw [(bcell hb2).1 _ _ hz1]; exact c1
      have d2 : w2.cell? ⟨w.heap.size, 2, none⟩ = some (.int .i64 po) := by rw [(bcell hb2).1 _ _ hz1]; exact c2
      have d3 : w2.cell? ⟨w.heap.size, 3, none⟩ = some (.string pa) := by rw [(bcell hb2).1 _ _ hz1]; exact c3
      clear hb2 c0 c1 c2 c3 KT HN HY
      go_wp2_with fail
      refine (KT2.out _ (HSl.out.below B2.out)).mono ?_
      rintro e w3 ⟨rfl, hb3⟩
      go_wp2
      go_ret
      exact ⟨ret_text HZ.out.symm, B2.out.trans (hb3.mono B2.out.size)⟩
end Go.Proofs.YtmlacbjlafdenahDoor

/- The walks of the program's SiteOf and SameSite. -/
namespace Go.Proofs.YtmlacbjlafdenahDoor
open Go.RowKit

set_option maxRecDepth 10000 in
set_option maxHeartbeats 1000000 in
theorem siteOf_any (v : Value) (n B : Nat) (f : Nat → ByteArray) (sc ho pa : ByteArray) (po : Int) (w : World) (hG : MaxI w) (hs : SliceS w B v n f) (l1 : n ≤ 1048576) (hf : ∀ i, i < n → (f i).size ≤ 1048576) (hh : ho.size ≤ 1048576) :
    Calls Tryd.prog 23 #[v, urlV sc ho pa po] w fun e w' => e = .returned (.string (siteOf n f sc ho pa po)) ∧ Below w.heap.size w w' := by
  have HSl : Hid (SliceS w B v n f) := hs
  have HG : Hid (MaxI w) := hG
  have B0 : Hid (∀ t : TypeId, Below w.heap.size w (w.alloc (.cells #[.string sc, .string ho, .int .i64 po, .string pa] t))) := fun t => (Below.refl _ _).alloc (Nat.le_refl _) _
  have KR : Hid (∀ W, MaxI W → SliceS W B v n f → Calls Tryd.prog 11 #[v] W fun e w' => e = .returned (.bool (rulesB n f)) ∧ Below W.heap.size W w') := fun W a b => rulesRight_any v n B f W a b l1 hf
  have KU : Hid (∀ W, MaxI W → Calls Tryd.prog 43 #[.agg #[.string sc, .string ho, .int .i64 po, .string pa]] W fun e w' => e = .returned (.bool (urlB sc ho pa po)) ∧ Below W.heap.size W w') := fun W a => urlRight_any sc ho pa po W a hh
  have KT : Hid (∀ W, MaxI W → SliceS W B v n f → Calls Tryd.prog 18 #[v, .string ho] W fun e w' => e = .returned (.agg #[.string (sufOf n f ho).1, .string (sufOf n f ho).2]) ∧ Below W.heap.size W w') := fun W a b => suffixOf_any v n B f ho W a b l1 hf hh
  have HN : Hid (¬ (rulesB n f = true ∧ urlB sc ho pa po = true) → siteOf n f sc ho pa po = ⟨#[]⟩) := fun h => by rw [siteOf, if_neg h]
  have HY : Hid (rulesB n f = true → urlB sc ho pa po = true → siteOf n f sc ho pa po = sc ++ ⟨#[58, 47, 47]⟩ ++ (if (sufOf n f ho).2.toList.isEmpty = true then ho else (sufOf n f ho).2) ∧ sc.size ≤ 5 ∧ ho.size ≤ 100 ∧ (sufOf n f ho).2.size ≤ 20000) := fun a b => by
    have hp := urlB_parts b
    have e : sufOf n f ho = (sufS n f ho, sufD n f ho) := by rw [sufOf, if_pos ⟨a, hostB_url b⟩]
    rw [siteOf, if_pos ⟨a, b⟩, e]
    exact ⟨rfl, hp.1, hp.2.1, sufD_size n f hp.2.1⟩
  clear hf hs hG
  unfold urlV
  have hfd : ∀ (a b : ByteArray) (W : World), Sem.run Tryd.prog (Instr.field 30 (.agg #[.string a, .string b]) 1) W = .ok (.string b) W := field_domain
  generalize siteOf n f sc ho pa po = T at *
  generalize (sufOf n f ho).2 = D at *
  generalize (sufOf n f ho).1 = S at *
  generalize rulesB n f = rb at *
  generalize urlB sc ho pa po = ub at *
  cases rb with
  | false =>
    have HZ : Hid (T = ⟨#[]⟩) := HN.out (fun a => by cases a.1)
    go_enter Tryd.func23, Tryd.ntmps23
    go_wp2_with fail
    refine (KR.out _ (HG.out.on (B0.out _)) (HSl.out.below (B0.out _))).mono ?_
    rintro e w1 ⟨rfl, hb1⟩
    have B1 : Hid (Below w.heap.size w w1) := (B0.out _).trans (hb1.mono (by simp))
    clear hb1
    go_wp2
    go_ret
    exact ⟨ret_text HZ.out.symm, B1.out⟩
  | true =>
    have HN2 : Hid (ub = false → T = ⟨#[]⟩) := fun h => HN.out (fun a => by rw [h] at a; cases a.2)
    have HY2 : Hid _ := HY.out rfl
    clear HN HY
    go_enter Tryd.func23, Tryd.ntmps23
    go_wp2_with fail
    refine (KR.out _ (HG.out.on (B0.out _)) (HSl.out.below (B0.out _))).mono ?_
    rintro e w1 ⟨rfl, hb1⟩
    have c0 : w1.cell? ⟨w.heap.size, 0, none⟩ = some (.string sc) := by rw [(bcell hb1).1 _ _ (by simp)]; simp
    have c1 : w1.cell? ⟨w.heap.size, 1, none⟩ = some (.string ho) := by rw [(bcell hb1).1 _ _ (by simp)]; simp
    have c2 : w1.cell? ⟨w.heap.size, 2, none⟩ = some (.int .i64 po) := by rw [(bcell hb1).1 _ _ (by simp)]; simp
    have c3 : w1.cell? ⟨w.heap.size, 3, none⟩ = some (.string pa) := by rw [(bcell hb1).1 _ _ (by simp)]; simp
    have hz1 : w.heap.size < w1.heap.size := by have := hb1.size; simp at this; omega
    have B1 : Hid (Below w.heap.size w w1) := (B0.out _).trans (hb1.mono (by simp))
    clear hb1
    go_wp2_with fail
    refine (KU.out _ (HG.out.on B1.out)).mono ?_
    rintro e w2 ⟨rfl, hb2⟩
    have B2 : Hid (Below w.heap.size w w2) := B1.out.trans (hb2.mono B1.out.size)
    cases ub with
    | false =>
      have HZ : Hid (T = ⟨#[]⟩) := HN2.out rfl
      clear hb2
      go_wp2
      go_ret
      exact ⟨ret_text HZ.out.symm, B2.out⟩
    | true =>
      obtain ⟨hT, h5, h100, hD⟩ := HY2.out rfl
      have ET : Hid (T = sc ++ ⟨#[58, 47, 47]⟩ ++ (if D.toList.isEmpty = true then ho else D)) := hT
      have h3 : (sc ++ ⟨#[58, 47, 47]⟩ : ByteArray).size ≤ 8 := by
        have e : (⟨#[58, 47, 47]⟩ : ByteArray).size = 3 := rfl
        rw [ByteArray.size_append, e]; omega
      have d0 : w2.cell? ⟨w.heap.size, 0, none⟩ = some (.string sc) := by rw [(bcell hb2).1 _ _ hz1]; exact c0
      have d1 : w2.cell? ⟨w.heap.size, 1, none⟩ = some (.string ho) := by rw [(bcell hb2).1 _ _ hz1]; exact c1
      have hz2 : w.heap.size < w2.heap.size := Nat.lt_of_lt_of_le hz1 hb2.size
      clear hb2 c0 c1 c2 c3 HN2 HY2 hT
      go_wp2_with fail
      refine (KT.out _ (HG.out.on B2.out) (HSl.out.below B2.out)).mono ?_
      rintro e w3 ⟨rfl, hb3⟩
      have f0 : w3.cell? ⟨w.heap.size, 0, none⟩ = some (.string sc) := by rw [(bcell hb3).1 _ _ hz2]; exact d0
      have f1 : w3.cell? ⟨w.heap.size, 1, none⟩ = some (.string ho) := by rw [(bcell hb3).1 _ _ hz2]; exact d1
      have B3 : Hid (Below w.heap.size w w3) := B2.out.trans (hb3.mono B2.out.size)
      clear hb3 d0 d1
      cases hd : D.toList.isEmpty with
      | true =>
        have HT : Hid (T = sc ++ ⟨#[58, 47, 47]⟩ ++ ho) := by show _ = _; rw [ET.out, if_pos hd]
        go_wp2
        go_ret
        exact ⟨ret_text HT.out.symm, B3.out⟩
      | false =>
        have HT : Hid (T = sc ++ ⟨#[58, 47, 47]⟩ ++ D) := by show _ = _; rw [ET.out, if_neg (by rw [hd]; decide)]
        go_wp2
        go_ret
        exact ⟨ret_text HT.out.symm, B3.out⟩

theorem siteT_ne (n : Nat) (f : Nat → ByteArray) (sc ho : ByteArray) : (siteT n f sc ho).toList.isEmpty = false := by
  rw [Lib.toList_data, List.isEmpty_eq_false_iff]
  intro e
  have h : (siteT n f sc ho).size = 0 := by rw [Lib.size_eq, e]; rfl
  unfold siteT at h
  have e3 : (⟨#[58, 47, 47]⟩ : ByteArray).size = 3 := rfl
  rw [ByteArray.size_append, ByteArray.size_append, e3] at h
  omega
theorem sameS_site (n : Nat) (f : Nat → ByteArray) (sc ho pa : ByteArray) (po : Int) (sc2 ho2 pa2 : ByteArray) (po2 : Int) :
    sameS n f sc ho pa po sc2 ho2 pa2 po2 = (!(siteOf n f sc ho pa po).toList.isEmpty && ((siteOf n f sc ho pa po).toList == (siteOf n f sc2 ho2 pa2 po2).toList)) := by
  unfold sameS siteOf
  cases rulesB n f <;> cases urlB sc ho pa po <;> cases urlB sc2 ho2 pa2 po2 <;> simp [siteT_ne]

set_option maxRecDepth 10000 in
set_option maxHeartbeats 1000000 in
theorem sameSite_any (v : Value) (n B : Nat) (f : Nat → ByteArray) (sc ho pa : ByteArray) (po : Int) (sc2 ho2 pa2 : ByteArray) (po2 : Int) (w : World) (hG : MaxI w) (hs : SliceS w B v n f) (l1 : n ≤ 1048576) (hf : ∀ i, i < n → (f i).size ≤ 1048576) (hh : ho.size ≤ 1048576) (hh2 : ho2.size ≤ 1048576) :
    Calls Tryd.prog 25 #[v, urlV sc ho pa po, urlV sc2 ho2 pa2 po2] w fun e w' => e = .returned (.bool (sameS n f sc ho pa po sc2 ho2 pa2 po2)) ∧ Below w.heap.size w w' := by
  have HSl : Hid (SliceS w B v n f) := hs
  have HG : Hid (MaxI w) := hG
  have B0 : Hid (∀ t t2 : TypeId, Below w.heap.size w ((w.alloc (.cells #[.string sc, .string ho, .int .i64 po, .string pa] t)).alloc (.cells #[.string sc2, .string ho2, .int .i64 po2, .string pa2] t2))) := fun t t2 => ((Below.refl _ _).alloc (Nat.le_refl _) _).alloc (by simp) _
  have K1 : Hid (∀ W, MaxI W → SliceS W B v n f → Calls Tryd.prog 23 #[v, .agg #[.string sc, .string ho, .int .i64 po, .string pa]] W fun e w' => e = .returned (.string (siteOf n f sc ho pa po)) ∧ Below W.heap.size W w') := fun W a b => siteOf_any v n B f sc ho pa po W a b l1 hf hh
  have K2 : Hid (∀ W, MaxI W → SliceS W B v n f → Calls Tryd.prog 23 #[v, .agg #[.string sc2, .string ho2, .int .i64 po2, .string pa2]] W fun e w' => e = .returned (.string (siteOf n f sc2 ho2 pa2 po2)) ∧ Below W.heap.size W w') := fun W a b => siteOf_any v n B f sc2 ho2 pa2 po2 W a b l1 hf hh2
  have HE : Hid (sameS n f sc ho pa po sc2 ho2 pa2 po2 = (!(siteOf n f sc ho pa po).toList.isEmpty && ((siteOf n f sc ho pa po).toList == (siteOf n f sc2 ho2 pa2 po2).toList))) := sameS_site n f sc ho pa po sc2 ho2 pa2 po2
  clear hf hs hG
  unfold urlV
  generalize sameS n f sc ho pa po sc2 ho2 pa2 po2 = R at *
  generalize siteOf n f sc ho pa po = T at *
  generalize siteOf n f sc2 ho2 pa2 po2 = T2 at *
  go_enter Tryd.func25, Tryd.ntmps25
  go_wp2_with fail
  refine (K1.out _ (HG.out.on (B0.out _ _)) (HSl.out.below (B0.out _ _))).mono ?_
  rintro e w1 ⟨rfl, hb1⟩
  have c0 : w1.cell? ⟨w.heap.size + 1, 0, none⟩ = some (.string sc2) := by rw [(bcell hb1).1 _ _ (by simp)]; simp
  have c1 : w1.cell? ⟨w.heap.size + 1, 1, none⟩ = some (.string ho2) := by rw [(bcell hb1).1 _ _ (by simp)]; simp
  have c2 : w1.cell? ⟨w.heap.size + 1, 2, none⟩ = some (.int .i64 po2) := by rw [(bcell hb1).1 _ _ (by simp)]; simp
  have c3 : w1.cell? ⟨w.heap.size + 1, 3, none⟩ = some (.string pa2) := by rw [(bcell hb1).1 _ _ (by simp)]; simp
  have B1 : Hid (Below w.heap.size w w1) := (B0.out _ _).trans (hb1.mono (by simp; omega))
  clear hb1
  cases hd : T.toList.isEmpty with
  | true =>
    have HR : Hid (R = false) := by show _ = _; rw [HE.out, hd]; rfl
    go_wp2
    go_ret
    exact ⟨ret_bool HR.out.symm, B1.out⟩
  | false =>
    have HR : Hid (R = (T.toList == T2.toList)) := by show _ = _; rw [HE.out, hd]; rfl
    go_wp2_with fail
    refine (K2.out _ (HG.out.on B1.out) (HSl.out.below B1.out)).mono ?_
    rintro e w2 ⟨rfl, hb2⟩
    go_wp2
    go_ret
    exact ⟨ret_bool HR.out.symm, B1.out.trans (hb2.mono B1.out.size)⟩
end Go.Proofs.YtmlacbjlafdenahDoor

/- What a list of cells holds, kept by whatever leaves old blocks as they were. -/
namespace Go.Proofs.YtmlacbjlafdenahDoor
open Go.RowKit
theorem cell_in {W : World} {p : Addr} {v : Value} (h : W.cell? p = some v) : p.block < W.heap.size := by
  by_cases hb : p.block < W.heap.size
  · exact hb
  · exfalso
    simp [World.cell?, Array.getElem?_eq_none (show W.heap.size ≤ p.block by omega)] at h
/-- what these cells hold -/
def Cells (W : World) : List (Addr × Value) → Prop
  | [] => True
  | p :: L => W.cell? p.1 = some p.2 ∧ Cells W L
theorem Cells.below {W W' : World} : ∀ {L : List (Addr × Value)}, Cells W L → Below W.heap.size W W' → Cells W' L
  | [], _, _ => trivial
  | _ :: _, h, hb => ⟨(@Below.cell _ _ _ hb _ (cell_in h.1)).trans h.1, Cells.below h.2 hb⟩
theorem Cells.join {W : World} : ∀ {L M : List (Addr × Value)}, Cells W L → Cells W M → Cells W (L ++ M)
  | [], _, _, h => h
  | _ :: _, _, h, k => ⟨h.1, Cells.join h.2 k⟩
/-- a slice of texts, wherever it lies -/
def SliceH (w : World) (v : Value) (n : Nat) (f : Nat → ByteArray) : Prop := Hid (SliceS w 0 v n f)
theorem SliceH.out {w : World} {v : Value} {n : Nat} {f : Nat → ByteArray} (h : SliceH w v n f) : SliceS w 0 v n f := Hid.out h
theorem strip {w : World} {B n : Nat} {v : Value} {f : Nat → ByteArray} (h : SliceS w B v n f) : SliceH w v n f := by
  obtain ⟨p, cap, rfl, h⟩ := h
  exact (⟨p, cap, rfl, fun hn => by obtain ⟨g, e, _, r⟩ := h hn; exact ⟨g, e, Nat.zero_le _, r⟩⟩ : SliceS w 0 _ n f)
theorem SliceH.below {w w' : World} {v : Value} {n : Nat} {f : Nat → ByteArray} (h : SliceH w v n f) (hb : Below w.heap.size w w') : SliceH w' v n f := SliceS.below h.out hb
end Go.Proofs.YtmlacbjlafdenahDoor

/- What the laws over a Url do besides their two calls: its size is looked at, and it is handed on field by field. -/
namespace Go.Proofs.YtmlacbjlafdenahDoor
open Go.RowKit

set_option maxRecDepth 10000 in
set_option maxHeartbeats 400000 in
theorem szUrl_any (sc ho pa : ByteArray) (po : Int) (w : World) (h1 : sc.size ≤ maxLen) (h2 : ho.size ≤ maxLen) (h3 : pa.size ≤ maxLen) :
    Calls Tryd.prog 20 #[urlV sc ho pa po, .int .i64 1048576] w fun e w' => (∃ r : Int, e = .returned (.int .i64 r) ∧ (r < 0 ∨ (0 ≤ r ∧ sc.size + ho.size + pa.size ≤ 1048576))) ∧ Below w.heap.size w w' := by
  unfold maxLen at h1 h2 h3
  unfold urlV
  by_cases c1 : 1048576 < sc.size
  · have q1 : (1048576 : Int) - (sc.size : Int) < 0 := by omega
    go_enter Tryd.func20, Tryd.ntmps20
    go_wp2
    go_ret
    exact ⟨⟨-1, rfl, .inl (by omega)⟩, (Below.refl _ _).alloc (Nat.le_refl _) _⟩
  have q1 : decide ((1048576 : Int) - (sc.size : Int) < 0) = false := by rw [decide_eq_false_iff_not]; omega
  by_cases c2 : 1048576 < sc.size + ho.size
  · have q2 : (1048576 : Int) - (sc.size : Int) - (ho.size : Int) < 0 := by omega
    go_enter Tryd.func20, Tryd.ntmps20
    go_wp2
    go_ret
    exact ⟨⟨-1, rfl, .inl (by omega)⟩, (Below.refl _ _).alloc (Nat.le_refl _) _⟩
  have q2 : decide ((1048576 : Int) - (sc.size : Int) - (ho.size : Int) < 0) = false := by rw [decide_eq_false_iff_not]; omega
  by_cases c3 : 1048576 < sc.size + ho.size + pa.size
  · have q3 : (1048576 : Int) - (sc.size : Int) - (ho.size : Int) - (pa.size : Int) < 0 := by omega
    go_enter Tryd.func20, Tryd.ntmps20
    go_wp2
    go_ret
    exact ⟨⟨-1, rfl, .inl (by omega)⟩, (Below.refl _ _).alloc (Nat.le_refl _) _⟩
  have q3 : decide ((1048576 : Int) - (sc.size : Int) - (ho.size : Int) - (pa.size : Int) < 0) = false := by rw [decide_eq_false_iff_not]; omega
  go_enter Tryd.func20, Tryd.ntmps20
  go_wp2
  go_ret
  exact ⟨⟨(1048576 : Int) - (sc.size : Int) - (ho.size : Int) - (pa.size : Int), rfl, .inr ⟨by omega, by omega⟩⟩, (Below.refl _ _).alloc (Nat.le_refl _) _⟩

set_option maxRecDepth 10000 in
set_option maxHeartbeats 400000 in
theorem toUrl_any (sc ho pa : ByteArray) (po : Int) (w : World) :
    Calls Tryd.prog 22 #[urlV sc ho pa po] w fun e w' => e = .returned (urlV sc ho pa po) ∧ Below w.heap.size w w' := by
  have HV : Hid (urlV sc ho pa po = .agg #[.string sc, .string ho, .int .i64 po, .string pa]) := rfl
  rw [HV.out]
  go_enter Tryd.func22, Tryd.ntmps22
  go_wp2
  exact bodyPost_ret (v := .agg #[.string sc, .string ho, .int .i64 po, .string pa]) (by simp [results, Tryd.results22, go_sem]) rfl ⟨rfl, (((Below.refl _ _).alloc (Nat.le_refl _) _).alloc (by simp) _).alloc (by simp; omega) _⟩
end Go.Proofs.YtmlacbjlafdenahDoor

/- The size of a Url against what is left; texts' sizes. -/
namespace Go.Proofs.YtmlacbjlafdenahDoor
open Go.RowKit

set_option maxRecDepth 10000 in
set_option maxHeartbeats 400000 in
theorem szUrl_at (sc ho pa : ByteArray) (po l : Int) (w : World) (h1 : sc.size ≤ maxLen) (h2 : ho.size ≤ maxLen) (h3 : pa.size ≤ maxLen) (l0 : 0 ≤ l) (l1 : l ≤ 1048576) :
    Calls Tryd.prog 20 #[.agg #[.string sc, .string ho, .int .i64 po, .string pa], .int .i64 l] w fun e w' => (∃ r : Int, e = .returned (.int .i64 r) ∧ (r < 0 ∨ (0 ≤ r ∧ r ≤ 1048576 ∧ sc.size + ho.size + pa.size ≤ 1048576))) ∧ Below w.heap.size w w' := by
  unfold maxLen at h1 h2 h3
  by_cases c1 : l < sc.size
  · have q1 : l - (sc.size : Int) < 0 := by omega
    go_enter Tryd.func20, Tryd.ntmps20
    go_wp2
    go_ret
    exact ⟨⟨-1, rfl, .inl (by omega)⟩, (Below.refl _ _).alloc (Nat.le_refl _) _⟩
  have q1 : decide (l - (sc.size : Int) < 0) = false := by rw [decide_eq_false_iff_not]; omega
  by_cases c2 : l < sc.size + ho.size
  · have q2 : l - (sc.size : Int) - (ho.size : Int) < 0 := by omega
    go_enter Tryd.func20, Tryd.ntmps20
    go_wp2
    go_ret
    exact ⟨⟨-1, rfl, .inl (by omega)⟩, (Below.refl _ _).alloc (Nat.le_refl _) _⟩
  have q2 : decide (l - (sc.size : Int) - (ho.size : Int) < 0) = false := by rw [decide_eq_false_iff_not]; omega
  by_cases c3 : l < sc.size + ho.size + pa.size
  · have q3 : l - (sc.size : Int) - (ho.size : Int) - (pa.size : Int) < 0 := by omega
    go_enter Tryd.func20, Tryd.ntmps20
    go_wp2
    go_ret
    exact ⟨⟨-1, rfl, .inl (by omega)⟩, (Below.refl _ _).alloc (Nat.le_refl _) _⟩
  have q3 : decide (l - (sc.size : Int) - (ho.size : Int) - (pa.size : Int) < 0) = false := by rw [decide_eq_false_iff_not]; omega
  go_enter Tryd.func20, Tryd.ntmps20
  go_wp2
  go_ret
  exact ⟨⟨l - (sc.size : Int) - (ho.size : Int) - (pa.size : Int), rfl, .inr ⟨by omega, by omega, by omega⟩⟩, (Below.refl _ _).alloc (Nat.le_refl _) _⟩
end Go.Proofs.YtmlacbjlafdenahDoor

/- The law FnExactSiteOf, walked, over what the program's SiteOf answers. -/
namespace Go.Proofs.YtmlacbjlafdenahDoor
open Go.RowKit

set_option maxRecDepth 10000 in
set_option maxHeartbeats 8000000 in
theorem lawSiteOf_of (w : World) (hI : ∀ (v : Value) (n B : Nat) (f : Nat → ByteArray) (sc ho pa : ByteArray) (po : Int) (W : World), Below w.heap.size w W → SliceS W B v n f → n ≤ 1048576 → (∀ i, i < n → (f i).size ≤ 1048576) → ho.size ≤ 1048576 → Calls Tryd.prog 23 #[v, urlV sc ho pa po] W fun e w' => e = .returned (.string (siteOf n f sc ho pa po)) ∧ Below W.heap.size W w')
    (a : Option Addr) (n cap : Nat) (f : Nat → ByteArray) (sc ho pa : ByteArray) (po : Int) (hr : StrRow w a n f) (hn : n ≤ maxLen) (m1 : sc.size ≤ maxLen) (m2 : ho.size ≤ maxLen) (m3 : pa.size ≤ maxLen) :
    Calls Tryd.prog 6 #[.slice a n cap, urlV sc ho pa po] w fun e w' => e = .returned (.bool true) ∧ Below w.heap.size w w' := by
  have HR : Hid (StrRow w a n f) := hr
  have HI : Hid (∀ (v : Value) (n B : Nat) (f : Nat → ByteArray) (sc ho pa : ByteArray) (po : Int) (W : World), Below w.heap.size w W → SliceS W B v n f → n ≤ 1048576 → (∀ i, i < n → (f i).size ≤ 1048576) → ho.size ≤ 1048576 → Calls Tryd.prog 23 #[v, urlV sc ho pa po] W fun e w' => e = .returned (.string (siteOf n f sc ho pa po)) ∧ Below W.heap.size W w') := hI
  have HB0 : Hid (∀ t : TypeId, Below w.heap.size w (w.alloc (.cells #[.string sc, .string ho, .int .i64 po, .string pa] t))) := fun t => (Below.refl _ _).alloc (Nat.le_refl _) _
  have KU : Hid (∀ W, Calls Tryd.prog 22 #[.agg #[.string sc, .string ho, .int .i64 po, .string pa]] W fun e w' => e = .returned (.agg #[.string sc, .string ho, .int .i64 po, .string pa]) ∧ Below W.heap.size W w') := fun W => toUrl_any sc ho pa po W
  have Z1 : Hid (∀ (l : Int) (W : World), 0 ≤ l → l ≤ 1048576 → Calls Tryd.prog 20 #[.agg #[.string sc, .string ho, .int .i64 po, .string pa], .int .i64 l] W fun e w' => (∃ r : Int, e = .returned (.int .i64 r) ∧ (r < 0 ∨ (0 ≤ r ∧ r ≤ 1048576 ∧ sc.size + ho.size + pa.size ≤ 1048576))) ∧ Below W.heap.size W w') := fun l W a b => szUrl_at sc ho pa po l W m1 m2 m3 a b
  clear hI hr
  unfold urlV
  go_enter Tryd.func6, Tryd.ntmps6
  go_wp2_with fail
  have B0 : Hid (Below w.heap.size w (w.alloc (.cells #[.string sc, .string ho, .int .i64 po, .string pa] 35))) := HB0.out _
  have z0 : w.heap.size + 1 ≤ (w.alloc (.cells #[.string sc, .string ho, .int .i64 po, .string pa] 35)).heap.size := by simp
  have p00 : (w.alloc (.cells #[.string sc, .string ho, .int .i64 po, .string pa] 35)).cell? ⟨w.heap.size, 0, none⟩ = some (.string sc) := by simp
  have p01 : (w.alloc (.cells #[.string sc, .string ho, .int .i64 po, .string pa] 35)).cell? ⟨w.heap.size, 1, none⟩ = some (.string ho) := by simp
  have p02 : (w.alloc (.cells #[.string sc, .string ho, .int .i64 po, .string pa] 35)).cell? ⟨w.heap.size, 2, none⟩ = some (.int .i64 po) := by simp
  have p03 : (w.alloc (.cells #[.string sc, .string ho, .int .i64 po, .string pa] 35)).cell? ⟨w.heap.size, 3, none⟩ = some (.string pa) := by simp
  generalize (w.alloc (.cells #[.string sc, .string ho, .int .i64 po, .string pa] 35)) = w0 at *
  refine (szStringS_any a n cap f 1048576 _ (HR.out.below B0.out) hn (by decide) (by decide)).mono ?_
  rintro e w0' ⟨⟨r, rfl, hr⟩, rfl⟩
  rcases hr with hr | ⟨r0, r1, hl, hf⟩
  · go_wp2
    go_ret
    exact ⟨rfl, B0.out⟩
  have q0 : decide (r < 0) = false := by rw [decide_eq_false_iff_not]; omega
  have hl2 : n ≤ 1048576 := by omega
  have HF : Hid (∀ i, i < n → (f i).size ≤ 1048576) := fun i hi => by have := hf i hi; omega
  clear hf hl
  go_wp2_with fail
  refine (Z1.out r _ r0 r1).mono ?_
  rintro e w1 ⟨⟨s, rfl, hs⟩, hb1⟩
  have T1 := Cells.below (L := [(⟨w.heap.size, 0, none⟩, .string sc), (⟨w.heap.size, 1, none⟩, .string ho), (⟨w.heap.size, 2, none⟩, .int .i64 po), (⟨w.heap.size, 3, none⟩, .string pa)]) (by simp only [Cells]; go_keep) hb1
  simp only [Cells] at T1
  obtain ⟨p10, p11, p12, p13, -⟩ := T1
  have z1 : w.heap.size + 1 ≤ w1.heap.size := Nat.le_trans z0 hb1.size
  have B1 : Hid (Below w.heap.size w w1) := B0.out.trans (hb1.mono B0.out.size)
  clear hb1 z0 p00 p01 p02 p03
  rcases hs with hs | ⟨s0, s1, hs1⟩
  · go_wp2
    go_ret
    exact ⟨rfl, B1.out⟩
  have qs : decide (s < 0) = false := by rw [decide_eq_false_iff_not]; omega
  have KZ : Hid (∀ W, Below w.heap.size w W → Calls Tryd.prog 10 #[.slice a n cap] W fun e w' => ∃ v, e = .returned v ∧ SliceS w' W.heap.size v n f ∧ Below W.heap.size W w') := fun W b => toStringS_any a n cap f W (HR.out.below b) hl2
  have KS : Hid (∀ (v : Value) (B : Nat) (W : World), SliceS W B v n f → Calls Tryd.prog 21 #[v, .agg #[.string sc, .string ho, .int .i64 po, .string pa]] W fun e w' => e = .returned (.string (siteOf n f sc ho pa po)) ∧ Below W.heap.size W w') := fun v B W c => specSiteOf_any v n B f sc ho pa po W c hl2 HF.out
  have KI : Hid (∀ (v : Value) (B : Nat) (W : World), Below w.heap.size w W → SliceS W B v n f → Calls Tryd.prog 23 #[v, .agg #[.string sc, .string ho, .int .i64 po, .string pa]] W fun e w' => e = .returned (.string (siteOf n f sc ho pa po)) ∧ Below W.heap.size W w') := fun v B W b c => HI.out v n B f sc ho pa po W b c hl2 HF.out (by omega)
  clear HI Z1
  generalize siteOf n f sc ho pa po = R at *
  go_wp2_with fail
  refine wp_region_held_drew (S := (fun w' => w.heap.size + 1 ≤ w'.heap.size ∧ w'.cell? ⟨w.heap.size, 0, none⟩ = some (.string sc) ∧ w'.cell? ⟨w.heap.size, 1, none⟩ = some (.string ho) ∧ w'.cell? ⟨w.heap.size, 2, none⟩ = some (.int .i64 po) ∧ w'.cell? ⟨w.heap.size, 3, none⟩ = some (.string pa))) (by kernel_rfl) ?_ (fun hH0 => ?_)
  · (try dsimp only)
    go_keep
  refine wpAnyH_take (i := 0) (oi := { dst := some 19, op := Op.move (Operand.tmp 0), type := 22, pos := "exact.go:1866", after := #[], guard := none }) (v := ?va0) rfl (by kernel_rfl) (by kernel_rfl) (by kernel_rfl) (fun _ _ _ h => h) (Or.inl ⟨by rfl, ?hya0⟩) (by assumption) ?resta0
  case hya0 =>
    intro w hSw
    (try dsimp only at hSw)
    go_simp
    try with_reducible rfl
  try simp only [Act.put, List.setIfInBounds_toArray, List.set_cons_zero, List.set_cons_succ]
  refine wpAnyH_take (i := 2) (oi := { dst := some 21, op := Op.load 35 (Operand.tmp 3), type := 35, pos := "exact.go:1866", after := #[], guard := none }) (v := ?va2) rfl (by kernel_rfl) (by kernel_rfl) (by kernel_rfl) (fun _ _ _ h => h) (Or.inl ⟨by rfl, ?hya2⟩) (by assumption) ?resta2
  case hya2 =>
    intro w hSw
    (try dsimp only at hSw)
    go_simp
    try with_reducible rfl
  try simp only [Act.put, List.setIfInBounds_toArray, List.set_cons_zero, List.set_cons_succ]
  refine wpAnyH_ready (rs := [1]) (by kernel_rfl) (by simp) ?_
  refine AllReadyH.cons (o := { dst := some 20, op := Op.call { callee := Callee.value (Operand.func 10), args := #[Operand.tmp 19], argTypes := #[22] }, type := 22, pos := "exact.go:1866", after := #[{ on := 0, ground := Ground.data }], guard := none }) rfl (fun K hK => ?_) AllReadyH.nil
  go_simp
  (go_at_call 10; refine (KZ.out _ (B1.out.trans (Below.drew (Below.refl _ _)))).mono ?_; rintro e w3 ⟨v3, rfl, s3, hb3⟩; have T3 := Cells.below (L := [(⟨w.heap.size, 0, none⟩, .string sc), (⟨w.heap.size, 1, none⟩, .string ho), (⟨w.heap.size, 2, none⟩, .int .i64 po), (⟨w.heap.size, 3, none⟩, .string pa)]) (by simp only [Cells]; go_keep) hb3; simp only [Cells] at T3; obtain ⟨p30, p31, p32, p33, -⟩ := T3; have z3 : w.heap.size + 1 ≤ w3.heap.size := Nat.le_trans z1 hb3.size; have B3 : Hid (Below w.heap.size w w3) := (B1.out.trans (Below.drew (Below.refl _ _))).trans (hb3.mono (by have := B1.out.size; simpa using this)); have S3 := strip s3; clear s3)
  try (go_wp2_with fail)
  refine hK.out _ _ ?_ (fun hH1 => ?_)
  · (try dsimp only)
    go_keep
  clear hK K hH0
  try simp only [Act.put, List.setIfInBounds_toArray, List.set_cons_zero, List.set_cons_succ]
  refine wpAnyH_ready (rs := [3]) (by kernel_rfl) (by simp) ?_
  refine AllReadyH.cons (o := { dst := some 22, op := Op.call { callee := Callee.value (Operand.func 22), args := #[Operand.tmp 21], argTypes := #[35] }, type := 38, pos := "exact.go:1866", after := #[{ on := 2, ground := Ground.data }, { on := 1, ground := Ground.chain }], guard := none }) rfl (fun K hK => ?_) AllReadyH.nil
  go_simp
  (go_at_call 22; refine (KU.out _).mono ?_; rintro e w5 ⟨rfl, hb5⟩; have T5 := Cells.below (L := [(⟨w.heap.size, 0, none⟩, .string sc), (⟨w.heap.size, 1, none⟩, .string ho), (⟨w.heap.size, 2, none⟩, .int .i64 po), (⟨w.heap.size, 3, none⟩, .string pa)]) (by simp only [Cells]; go_keep) hb5; simp only [Cells] at T5; obtain ⟨p50, p51, p52, p53, -⟩ := T5; have z5 : w.heap.size + 1 ≤ w5.heap.size := Nat.le_trans z3 hb5.size; have B5 : Hid (Below w.heap.size w w5) := B3.out.trans (hb5.mono B3.out.size); have S5 := S3.below hb5; clear p30 p31 p32 p33 z3 hb3)
  try (go_wp2_with fail)
  refine hK.out _ _ ?_ (fun hH2 => ?_)
  · (try dsimp only)
    go_keep
  clear hK K hH1
  try simp only [Act.put, List.setIfInBounds_toArray, List.set_cons_zero, List.set_cons_succ]
  refine wpAnyH_ready (rs := [4]) (by kernel_rfl) (by simp) ?_
  refine AllReadyH.cons (o := { dst := some 23, op := Op.call { callee := Callee.value (Operand.func 21), args := #[Operand.tmp 20, Operand.tmp 22], argTypes := #[22, 38] }, type := 9, pos := "exact.go:1866", after := #[{ on := 1, ground := Ground.data }, { on := 3, ground := Ground.data }, { on := 3, ground := Ground.chain }], guard := none }) rfl (fun K hK => ?_) AllReadyH.nil
  go_simp
  (go_at_call 21; refine (KS.out v3 0 _ S5.out).mono ?_; rintro e w6 ⟨rfl, hb6⟩; have T6 := Cells.below (L := [(⟨w.heap.size, 0, none⟩, .string sc), (⟨w.heap.size, 1, none⟩, .string ho), (⟨w.heap.size, 2, none⟩, .int .i64 po), (⟨w.heap.size, 3, none⟩, .string pa)]) (by simp only [Cells]; go_keep) hb6; simp only [Cells] at T6; obtain ⟨p60, p61, p62, p63, -⟩ := T6; have z6 : w.heap.size + 1 ≤ w6.heap.size := Nat.le_trans z5 hb6.size; have B6 : Hid (Below w.heap.size w w6) := B5.out.trans (hb6.mono B5.out.size); clear p50 p51 p52 p53 z5 hb5)
  try (go_wp2_with fail)
  refine hK.out _ _ ?_ (fun hH3 => ?_)
  · (try dsimp only)
    go_keep
  clear hK K hH2
  try simp only [Act.put, List.setIfInBounds_toArray, List.set_cons_zero, List.set_cons_succ]
  refine wpAnyH_take (i := 5) (oi := { dst := some 6, op := Op.assign (Operand.tmp 23), type := 9, pos := "exact.go:1866", after := #[{ on := 4, ground := Ground.data }, { on := 4, ground := Ground.chain }, { on := 0, ground := Ground.phase }, { on := 1, ground := Ground.phase }, { on := 2, ground := Ground.phase }, { on := 3, ground := Ground.phase }, { on := 4, ground := Ground.phase }], guard := none }) (v := ?va5) rfl (by kernel_rfl) (by kernel_rfl) (by kernel_rfl) (fun _ _ _ h => h) (Or.inl ⟨by rfl, ?hya5⟩) (by assumption) ?resta5
  case hya5 =>
    intro w hSw
    (try dsimp only at hSw)
    go_simp
    try with_reducible rfl
  try simp only [Act.put, List.setIfInBounds_toArray, List.set_cons_zero, List.set_cons_succ]
  refine wpAnyH_done (by kernel_rfl) ?_ _
  clear S3 S5
  go_wp2_with fail
  refine (KZ.out _ B6.out).mono ?_
  rintro e w7 ⟨v7, rfl, s7, hb7⟩
  have S7 := strip s7
  have T7 := Cells.below (L := [(⟨w.heap.size, 0, none⟩, .string sc), (⟨w.heap.size, 1, none⟩, .string ho), (⟨w.heap.size, 2, none⟩, .int .i64 po), (⟨w.heap.size, 3, none⟩, .string pa)]) (by simp only [Cells]; go_keep) hb7
  simp only [Cells] at T7
  obtain ⟨p70, p71, p72, p73, -⟩ := T7
  have z7 : w.heap.size + 1 ≤ w7.heap.size := Nat.le_trans z6 hb7.size
  have B7 : Hid (Below w.heap.size w w7) := B6.out.trans (hb7.mono B6.out.size)
  clear s7 hb7 z6 hb6 p60 p61 p62 p63
  go_wp2_with fail
  refine (KU.out _).mono ?_
  rintro e w8 ⟨rfl, hb8⟩
  have S8 := S7.below hb8
  have B8 : Hid (Below w.heap.size w w8) := B7.out.trans (hb8.mono B7.out.size)
  clear hb8 S7
  go_wp2_with fail
  refine (KI.out v7 0 _ B8.out S8.out).mono ?_
  rintro e w10 ⟨rfl, hb10⟩
  have S10 := S8.below hb10
  have B10 : Hid (Below w.heap.size w w10) := B8.out.trans (hb10.mono B8.out.size)
  clear S8 hb10
  go_wp2_with fail
  refine (KZ.out _ B10.out).mono ?_
  rintro e w11 ⟨v11, rfl, s11, hb11⟩
  have S11 := S10.below hb11
  have B11 : Hid (Below w.heap.size w w11) := B10.out.trans (hb11.mono B10.out.size)
  clear hb11
  go_wp2_with fail
  refine (eqStringS_any v7 v11 n _ _ f _ S11.out s11 (by omega)).mono ?_
  rintro e w12 ⟨rfl, hb12⟩
  go_wp2
  go_ret
  exact ⟨rfl, B11.out.trans (hb12.mono B11.out.size)⟩
end Go.Proofs.YtmlacbjlafdenahDoor

/- A slice of texts that came in, as a law's frame opens it. -/
namespace Go.Proofs.YtmlacbjlafdenahDoor
open Go.ChangeShapes Go.WideShapes Go.ChangeAt Go.RowKit

theorem strRow_of {H : Type} {enc : TypeId × Value → H} {W : World} {a : Option Addr} {len cap : Nat} {d : DataW H} {p : List MemPlace}
    (h : ∃ fuel, DataW.trod enc Tryd.prog W 0 (fun _ => true) true fuel 22 (Value.slice a len cap).cells.toList = some (d, p)) : (∃ f, StrRow W a len f) ∧ len ≤ maxLen := by
  obtain ⟨fuel, hf⟩ := h
  rcases Go.Deep.open_strs Tryd.underlying22 Tryd.underlying9 (by kernel_rfl) hf with ⟨hcs, _⟩ | ⟨x, l, c, m, f, hcs, _, hl, hm, hmm, _, hcell⟩
  · simp [Value.cells] at hcs
    obtain ⟨rfl, rfl, rfl⟩ := hcs
    exact ⟨⟨fun _ => ⟨#[]⟩, fun i hi => absurd hi (by omega)⟩, Nat.zero_le _⟩
  · simp [Value.cells] at hcs
    obtain ⟨rfl, rfl, rfl⟩ := hcs
    refine ⟨⟨f, fun i hi => ?_⟩, by omega⟩
    have hmc : m = cap := by simpa using hmm
    obtain ⟨hc, hs⟩ := hcell i (by omega)
    refine ⟨x, rfl, ?_, hc, hs⟩
    have hb : (x.add i).block < W.heap.size := by
      by_cases h : (x.add i).block < W.heap.size
      · exact h
      · exfalso
        simp [World.cell?, Array.getElem?_eq_none (show W.heap.size ≤ (x.add i).block by omega)] at hc
    have e : (x.add i).block = x.block := by unfold Addr.add; split <;> rfl
    rw [e] at hb; exact hb
end Go.Proofs.YtmlacbjlafdenahDoor

/- The law FnExactSiteOf, walked. -/
namespace Go.Proofs.YtmlacbjlafdenahDoor
open Go.RowKit
theorem lawSiteOf_any (a : Option Addr) (n cap : Nat) (f : Nat → ByteArray) (sc ho pa : ByteArray) (po : Int) (w : World) (hG : MaxI w) (hr : StrRow w a n f) (hn : n ≤ maxLen) (m1 : sc.size ≤ maxLen) (m2 : ho.size ≤ maxLen) (m3 : pa.size ≤ maxLen) :
    Calls Tryd.prog 6 #[.slice a n cap, urlV sc ho pa po] w fun e w' => e = .returned (.bool true) ∧ Below w.heap.size w w' :=
  lawSiteOf_of w (fun v n B f sc ho pa po W hb hs hn hf hh => siteOf_any v n B f sc ho pa po W (hG.on hb) hs hn hf hh) a n cap f sc ho pa po hr hn m1 m2 m3
end Go.Proofs.YtmlacbjlafdenahDoor

/- The lifting of a law's walk to a row that lists package-level variables, the world's shape kept; what the shape and the list give a walk. -/
namespace Go.Proofs.YtmlacbjlafdenahDoor
open Go.RowKit

theorem Ld.own : ownKnob Tryd.prog.godebug = none := by kernel_rfl
theorem Ld.laidOut : laidOutB Tryd.prog = true := by kernel_rfl
set_option maxRecDepth 10000 in
theorem lift_laid {H : Type} {enc : TypeId × Value → H} {os : Os} {f : FuncId} {fn : Func} {s : ChangeSpec} {X : World → Prop} (hX : ∀ (w w' : World), w.heap = w'.heap → X w → X w')
    (started : os.Started) (noInit : Tryd.prog.inits.idxOf? f = none) (hfn : Tryd.prog.funcs[f]? = some fn)
    (start : ∃ (w : World) (tape : Tape) (i : Input), w.os = os ∧ (w.forCall tape i).Shaped Tryd.prog ∧ i.vars = [] ∧ Input.okWide Tryd.prog (w.forCall tape i) .any w.heap.size f i ∧
      ((s.pre enc Tryd.prog fn [] false (w.forCall tape i).memory i.args ∧ X (w.forCall tape i).memory) ∧ sizedMet enc Tryd.prog fn (OpenSpec.ofChange s) false (w.forCall tape i).memory i.args) ∧ Assume.holds {} Tryd.prog (lone (Frame.enter Tryd.prog f i.args .normal) [] (w.forCall tape i)))
    (walk : ∀ (W : World) (base : Nat) (args : Array Value) (ds gs : List (DataW H)) (before : List MemPlace),
      (∀ (j : Nat) t v, fn.params[j]? = some t → args[j]? = some v → Value.okWide Tryd.prog W .any base t v) →
      DataW.Whole enc Tryd.prog fn.params.toList s.vars false W args.toList ds gs before → X W → W.ShapedOpen Tryd.prog →
      Calls Tryd.prog f args W fun e W' => ∃ v, e = .returned v ∧ s.post enc Tryd.prog fn false true false false W args v W') :
    ReturnsInHanded {} Tryd.checked os f .any (fun w args => (s.pre enc Tryd.prog fn [] false w args ∧ X w) ∧ sizedMet enc Tryd.prog fn (OpenSpec.ofChange s) false w args) (s.post enc Tryd.prog fn false true false false) := by
  refine returnsInHanded_of_calls (C := Tryd.checked) Ld.own started noInit start ?_
  intro w tape i _ hsh _ hok hpre _
  obtain ⟨_, _, _, fn2, hfn2, _, _, _, _, hval⟩ := hok
  obtain rfl : fn2 = fn := Option.some.inj (hfn2.symm.trans hfn)
  obtain ⟨⟨⟨ds, gs, before, hw, _⟩, hx⟩, _⟩ := hpre
  have hw2 := DataW.Whole.of_heap (w' := w.forCall tape i) (by rfl) hw
  refine (walk (w.forCall tape i) w.heap.size i.args ds gs before hval hw2 (hX _ _ (by rfl) hx) hsh).mono fun e W' ⟨v, he, hp⟩ => ?_
  subst he
  exact ChangeSpec.post_blind hp
set_option maxRecDepth 10000 in
theorem maxI_of_shape {W : World} (h : W.ShapedOpen Tryd.prog) : MaxI W := Tryd.lays146.s1_3 W h
end Go.Proofs.YtmlacbjlafdenahDoor
