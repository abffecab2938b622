/- The walks of the specification's l03Site and SiteOf. -/
import Derived.Test.YtddlnbmkknbegaaDoorSpecSuffix
import Derived.Test.YtddlnbmkknbegaaDoorSpecUrlText
namespace Go.Proofs.YtddlnbmkknbegaaDoor
open Go.RowKit

/-- the domain, or the host if there is none -/
def siteD (n : Nat) (f : Nat → ByteArray) (ho : ByteArray) : ByteArray := if (sufD n f ho).toList.isEmpty = true then ho else sufD n f ho
def siteT (n : Nat) (f : Nat → ByteArray) (sc ho : ByteArray) : ByteArray := sc ++ ⟨#[58, 47, 47]⟩ ++ siteD n f ho
/-- what SiteOf tells -/
def siteOf (n : Nat) (f : Nat → ByteArray) (sc ho pa : ByteArray) (po : Int) : ByteArray := if rulesB n f = true ∧ urlB sc ho pa po = true then siteT n f sc ho else ⟨#[]⟩
/-- of one site -/
def sameS (n : Nat) (f : Nat → ByteArray) (sc ho pa : ByteArray) (po : Int) (sc2 ho2 pa2 : ByteArray) (po2 : Int) : Bool :=
  rulesB n f && urlB sc ho pa po && urlB sc2 ho2 pa2 po2 && ((siteT n f sc ho).toList == (siteT n f sc2 ho2).toList)
theorem sufD_size (n : Nat) (f : Nat → ByteArray) {s : ByteArray} (h : s.size ≤ 100) : (sufD n f s).size ≤ 20000 := by
  unfold sufD
  split
  · rename_i hc
    have hl := splitB_len s 46
    have := tailN_size (f := atL (splitB s 46)) (d := (splitB s 46).length - (sufC n f s + 1)) 100 (sufC n f s + 1) (fun i hi => piece_small h _ (by omega))
    have h2 : 101 * (sufC n f s + 1) ≤ 101 * 101 := Nat.mul_le_mul_left _ (by omega)
    omega
  · exact Nat.zero_le _
theorem hostB_url {sc ho pa : ByteArray} {po : Int} (h : urlB sc ho pa po = true) : hostB ho = true := by
  unfold urlB placeB at h
  rw [Bool.and_eq_true, Bool.and_eq_true, Bool.and_eq_true] at h
  exact h.1.1.2

set_option maxRecDepth 100000 in
theorem field_domain (a b : ByteArray) (W : World) : Sem.run Tryd.prog (Instr.field 35 (.agg #[.string a, .string b]) 1) W = .ok (.string b) W := by kernel_rfl
set_option maxRecDepth 10000 in
set_option maxHeartbeats 1000000 in
theorem specSite_any (v : Value) (n B : Nat) (f : Nat → ByteArray) (sc ho pa : ByteArray) (po : Int) (w : World) (hs : SliceS w B v n f) (l1 : n ≤ 1048576) (hf : ∀ i, i < n → 0 < (f i).size ∧ (f i).size ≤ 1000) (h5 : sc.size ≤ 5) (hh : ho.size ≤ 100) :
    Calls Tryd.prog 37 #[v, urlV sc ho pa po] w fun e w' => e = .returned (.string (siteT n f sc ho)) ∧ Below w.heap.size w w' := by
  have B0 : Hid (∀ t : TypeId, Below w.heap.size w (w.alloc (.cells #[.string sc, .string ho, .int .i64 po, .string pa] t))) := fun t => (Below.refl _ _).alloc (Nat.le_refl _) _
  have KO : Hid (∀ t : TypeId, Calls Tryd.prog 42 #[v, .string ho] (w.alloc (.cells #[.string sc, .string ho, .int .i64 po, .string pa] t)) fun e w' => e = .returned (.agg #[.string (sufS n f ho), .string (sufD n f ho)]) ∧ Below (w.alloc (.cells #[.string sc, .string ho, .int .i64 po, .string pa] t)).heap.size (w.alloc (.cells #[.string sc, .string ho, .int .i64 po, .string pa] t)) w') :=
    fun t => specOf_any v n B f ho _ (hs.below (B0.out t)) l1 hf hh
  have hz := sufD_size n f hh
  have ET : Hid (siteT n f sc ho = sc ++ ⟨#[58, 47, 47]⟩ ++ (if (sufD n f ho).toList.isEmpty = true then ho else sufD n f ho)) := rfl
  have h3 : (sc ++ ⟨#[58, 47, 47]⟩ : ByteArray).size ≤ 8 := by
    have e : (⟨#[58, 47, 47]⟩ : ByteArray).size = 3 := rfl
    rw [ByteArray.size_append, e]; omega
  clear hs hf
  generalize siteT n f sc ho = T at *
  generalize sufD n f ho = D at *
  generalize sufS n f ho = S at *
  unfold urlV
  have hfd : ∀ (a b : ByteArray) (W : World), Sem.run Tryd.prog (Instr.field 35 (.agg #[.string a, .string b]) 1) W = .ok (.string b) W := field_domain
  go_enter Tryd.func37, Tryd.ntmps37
  go_wp2_with fail
  refine (KO.out _).mono ?_
  rintro e w1 ⟨rfl, hb1⟩
  have c0 : w1.cell? ⟨w.heap.size, 0, none⟩ = some (.string sc) := by rw [(bcell hb1).1 _ _ (by simp)]; simp
  have c1 : w1.cell? ⟨w.heap.size, 1, none⟩ = some (.string ho) := by rw [(bcell hb1).1 _ _ (by simp)]; simp
  have B1 : Hid (Below w.heap.size w w1) := (B0.out _).trans (hb1.mono (by simp))
  clear hb1
  cases hd : D.toList.isEmpty with
  | true =>
    have HT : Hid (T = sc ++ ⟨#[58, 47, 47]⟩ ++ ho) := by show _ = _; rw [ET.out, if_pos hd]
    go_wp2
    go_ret
    exact ⟨ret_text HT.out.symm, B1.out⟩
  | false =>
    have HT : Hid (T = sc ++ ⟨#[58, 47, 47]⟩ ++ D) := by show _ = _; rw [ET.out, if_neg (by rw [hd]; decide)]
    go_wp2
    go_ret
    exact ⟨ret_text HT.out.symm, B1.out⟩
set_option maxRecDepth 10000 in
set_option maxHeartbeats 1000000 in
theorem specSiteOf_any (v : Value) (n B : Nat) (f : Nat → ByteArray) (sc ho pa : ByteArray) (po : Int) (w : World) (hs : SliceS w B v n f) (l1 : n ≤ 1048576) (hf : ∀ i, i < n → (f i).size ≤ 1048576) :
    Calls Tryd.prog 15 #[v, urlV sc ho pa po] w fun e w' => e = .returned (.string (siteOf n f sc ho pa po)) ∧ Below w.heap.size w w' := by
  have HSl : Hid (SliceS w B v n f) := hs
  have B0 : Hid (∀ t : TypeId, Below w.heap.size w (w.alloc (.cells #[.string sc, .string ho, .int .i64 po, .string pa] t))) := fun t => (Below.refl _ _).alloc (Nat.le_refl _) _
  have KR : Hid (∀ W, SliceS W B v n f → Calls Tryd.prog 16 #[v] W fun e w' => e = .returned (.bool (rulesB n f)) ∧ Below W.heap.size W w') := fun W a => specRules_any v n B f W a l1 hf
  have KU : Hid (∀ W, Calls Tryd.prog 17 #[.agg #[.string sc, .string ho, .int .i64 po, .string pa]] W fun e w' => e = .returned (.bool (urlB sc ho pa po)) ∧ Below W.heap.size W w') := fun W => specUrlRight_any sc ho pa po W
  have KT : Hid (rulesB n f = true → urlB sc ho pa po = true → ∀ W, SliceS W B v n f → Calls Tryd.prog 37 #[v, .agg #[.string sc, .string ho, .int .i64 po, .string pa]] W fun e w' => e = .returned (.string (siteT n f sc ho)) ∧ Below W.heap.size W w') :=
    fun a b W c => specSite_any v n B f sc ho pa po W c l1 (rulesB_parts a).2 (urlB_parts b).1 (urlB_parts b).2.1
  have HN : Hid (¬ (rulesB n f = true ∧ urlB sc ho pa po = true) → siteOf n f sc ho pa po = ⟨#[]⟩) := fun h => by rw [siteOf, if_neg h]
  have HY : Hid (rulesB n f = true → urlB sc ho pa po = true → siteOf n f sc ho pa po = siteT n f sc ho) := fun a b => by rw [siteOf, if_pos ⟨a, b⟩]
  have HR20 : Hid (rulesB n f = true → n ≤ 20) := fun a => (rulesB_parts a).1
  obtain ⟨p, cap, rfl, -⟩ := hs
  clear hf
  unfold urlV
  by_cases h400 : 400 < n
  · have HZ : Hid (siteOf n f sc ho pa po = ⟨#[]⟩) := HN.out (fun a => by have := HR20.out a.1; omega)
    go_enter Tryd.func15, Tryd.ntmps15
    go_wp2
    go_ret
    exact ⟨ret_text HZ.out.symm, B0.out _⟩
  have q1 : decide ((400 : Int) < (n : Int)) = false := by rw [decide_eq_false_iff_not]; omega
  generalize siteOf n f sc ho pa po = T at *
  generalize siteT n f sc ho = T2 at *
  generalize rulesB n f = rb at *
  generalize urlB sc ho pa po = ub at *
  cases rb with
  | false =>
    have HZ : Hid (T = ⟨#[]⟩) := HN.out (fun a => by cases a.1)
    go_enter Tryd.func15, Tryd.ntmps15
    go_wp2_with fail
    refine (KR.out _ (HSl.out.below (B0.out _))).mono ?_
    rintro e w1 ⟨rfl, hb1⟩
    have B1 : Hid (Below w.heap.size w w1) := (B0.out _).trans (hb1.mono (by simp))
    clear hb1
    go_wp2
    go_ret
    exact ⟨ret_text HZ.out.symm, B1.out⟩
  | true =>
    go_enter Tryd.func15, Tryd.ntmps15
    go_wp2_with fail
    refine (KR.out _ (HSl.out.below (B0.out _))).mono ?_
    rintro e w1 ⟨rfl, hb1⟩
    have c0 : w1.cell? ⟨w.heap.size, 0, none⟩ = some (.string sc) := by rw [(bcell hb1).1 _ _ (by simp)]; simp
    have c1 : w1.cell? ⟨w.heap.size, 1, none⟩ = some (.string ho) := by rw [(bcell hb1).1 _ _ (by simp)]; simp
    have c2 : w1.cell? ⟨w.heap.size, 2, none⟩ = some (.int .i64 po) := by rw [(bcell hb1).1 _ _ (by simp)]; simp
    have c3 : w1.cell? ⟨w.heap.size, 3, none⟩ = some (.string pa) := by rw [(bcell hb1).1 _ _ (by simp)]; simp
    have hz1 : w.heap.size < w1.heap.size := by have := hb1.size; simp at this; omega
    have B1 : Hid (Below w.heap.size w w1) := (B0.out _).trans (hb1.mono (by simp))
    clear hb1
    go_wp2_with fail
    refine (KU.out _).mono ?_
    rintro e w2 ⟨rfl, hb2⟩
    have B2 : Hid (Below w.heap.size w w2) := B1.out.trans (hb2.mono B1.out.size)
    cases ub with
    | false =>
      have HZ : Hid (T = ⟨#[]⟩) := HN.out (fun a => by cases a.2)
      clear hb2
      go_wp2
      go_ret
      exact ⟨ret_text HZ.out.symm, B2.out⟩
    | true =>
      have HZ : Hid (T = T2) := HY.out (by trivial) (by trivial)
      have KT2 : Hid _ := KT.out (by trivial) (by trivial)
      have d0 : w2.cell? ⟨w.heap.size, 0, none⟩ = some (.string sc) := by rw [(bcell hb2).1 _ _ hz1]; exact c0
      have d1 : w2.cell? ⟨w.heap.size, 1, none⟩ = some (.string ho) := by rw [(bcell hb2).1 _ _ hz1]; exact c1
      have d2 : w2.cell? ⟨w.heap.size, 2, none⟩ = some (.int .i64 po) := by rw [(bcell hb2).1 _ _ hz1]; exact c2
      have d3 : w2.cell? ⟨w.heap.size, 3, none⟩ = some (.string pa) := by rw [(bcell hb2).1 _ _ hz1]; exact c3
      clear hb2 c0 c1 c2 c3 KT HN HY
      go_wp2_with fail
      refine (KT2.out _ (HSl.out.below B2.out)).mono ?_
      rintro e w3 ⟨rfl, hb3⟩
      go_wp2
      go_ret
      exact ⟨ret_text HZ.out.symm, B2.out.trans (hb3.mono B2.out.size)⟩
end Go.Proofs.YtddlnbmkknbegaaDoor
